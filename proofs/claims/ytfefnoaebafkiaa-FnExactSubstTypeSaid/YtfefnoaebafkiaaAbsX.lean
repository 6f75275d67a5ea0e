/- Keys: when two values of a key's type are equal. -/
import Derived.Test.YtfefnoaebafkiaaAbsJ
import Derived.Laws.StructEq
import Derived.MapKept
import Derived.WideKeyRuns
import Derived.LaidEql
import Derived.Carry
set_option linter.unusedVariables false
set_option linter.unusedSimpArgs false
namespace Go.Abs
open Go.RowKit

/-- one cell -/
def c1A : TK → AV → AV → Option Bool
  | .int q, .int k a, .int k' b => if k = k' then some (decide (a = b)) else none
  | .str, .str a, .str b => some (decide (a = b))
  | .bool, .bool a, .bool b => some (a == b)
  | .ptr _, .ivptr b o _, .ivptr b' o' _ => some (decide (b = b' ∧ o = o'))
  | _, _, _ => none

def keyKind (P : Program) : TK → Bool
  | .int _ | .bool | .str => true
  | .ptr e => match P.info? e with
    | some i => i.size != 0
    | none => false
  | _ => false

section
variable {P : Program} {G : Ghost} {w : World}

theorem sameAddr_run {b o b' o' : Nat} (h : fzOk w b) (h' : fzOk w b') : (sameAddr ⟨b, o, none⟩ ⟨b', o', none⟩).run P w = .ok (decide (b = b' ∧ o = o')) w := by
  by_cases he : b = b' ∧ o = o'
  · obtain ⟨rfl, rfl⟩ := he
    rw [run_sameAddr_same]; simp
  · obtain ⟨c, e, h⟩ := h
    obtain ⟨c', e', h'⟩ := h'
    rw [run_sameAddr_other w (a := ⟨b, o, none⟩) (b := ⟨b', o', none⟩) (fun hh => he (by injection hh with h1 h2; exact ⟨h1, h2⟩)) h h', decide_eq_false he]

theorem c1_run {t : TypeId} {ti : TI} {d : Nat} {x y : AV} {a b : Value} {r : Bool} (ht : tinf P t = some ti) (hk : keyKind P ti.kind = true) (h : c1A ti.kind x y = some r) (hx : RV G w x a) (hy : RV G w y b) :
    (Op.equalIn (d + 1) t a b).run P w = .ok r w := by
  obtain ⟨i, dd, h1, h2, h3, h4, h5, h6⟩ := tinf_spec ht
  cases hkd : ti.kind <;> rw [hkd] at h hk h6 <;> simp only [keyKind] at hk <;> try (cases hk; done)
  case int q =>
    obtain rfl := tk_int h6.symm
    cases x <;> simp only [c1A] at h <;> try (cases h; done)
    cases y <;> simp only [c1A] at h <;> try (cases h; done)
    split at h <;> cases h
    rename_i hkk
    subst hkk
    cases hx; cases hy
    rw [run_equalIn_int w d t _ _ _ _ h2, beq_int]
  case bool =>
    obtain rfl := tk_bool h6.symm
    cases x <;> simp only [c1A] at h <;> try (cases h; done)
    cases y <;> simp only [c1A] at h <;> cases h
    cases hx; cases hy
    exact run_equalIn_bool' w d t _ _ h2
  case str =>
    obtain rfl := tk_str h6.symm
    cases x <;> simp only [c1A] at h <;> try (cases h; done)
    cases y <;> simp only [c1A] at h <;> cases h
    cases hx; cases hy
    rw [run_equalIn_string w d t _ _ h2, bytes_toList, bytes_toList, beq_list]
  case ptr e =>
    obtain rfl := tk_ptr h6.symm
    cases x <;> simp only [c1A] at h <;> try (cases h; done)
    cases y <;> simp only [c1A] at h <;> cases h
    cases hx with
    | ivptr cs bb oo X hl hn hx hI hz hh =>
      cases hy with
      | ivptr cs' bb' oo' X' hl' hn' hx' hI' hz' hh' =>
        split at hk
        · rename_i ie hie
          have hsz : ¬ ie.size = 0 := by simpa using hk
          unfold Op.equalIn
          simp [run_underlying h2, Result.andThen, sizeOf_run hie, hsz, sameAddr_run hz hz']
        · cases hk

/-- the cells that a key is compared by -/
def keyS (P : Program) (t : TypeId) : Option (List (Nat × TK)) :=
  match P.underlying t, P.info? t with
  | some (.struct fs), some i => if (fs.all (fun f => f.name != "_" && decide (f.offset < i.size)) && !P.stoodInHeld t && !P.eqGuardType P.depth t && fs.toList.map (·.offset) == List.range i.size) = true then
      fs.toList.mapM fun f => match tinf P f.type with
        | some ti => if keyKind P ti.kind = true then some (f.offset, ti.kind) else none
        | none => none
    else none
  | _, _ => none

def eqK : List (Nat × TK) → List AV → List AV → Option Bool
  | [], _, _ => some true
  | (o, k) :: l, xs, ys => match c1A k (xs.getD o .bot) (ys.getD o .bot) with
    | some r => match eqK l xs ys with
      | some q => some (r && q)
      | none => none
    | none => none

theorem keyKind_part {k : TK} (hk : keyKind P k = true) {ti : TI} (hkd : ti.kind = k) (cs : List AV) (off : Nat) : partA ti cs off = some (off < cs.length, cs.getD off .bot) := by
  unfold partA
  rw [hkd]
  cases k <;> simp_all [keyKind]

theorem eqFields_run {d : Nat} {cs ds : List AV} {xs ys : Array Value} (hs : xs.size = cs.length) (hc : ∀ x ∈ xs, x.oneCell' = true) (h : ∀ i, i < cs.length → RV G w (cs.getD i .bot) (xs.getD i undef))
    (hs' : ys.size = ds.length) (hc' : ∀ x ∈ ys, x.oneCell' = true) (h' : ∀ i, i < ds.length → RV G w (ds.getD i .bot) (ys.getD i undef)) : ∀ (fs : List Field) {l : List (Nat × TK)} {r : Bool}, (∀ f ∈ fs, f.name ≠ "_" ∧ f.offset < cs.length ∧ f.offset < ds.length) →
    (fs.mapM fun f => match tinf P f.type with
        | some ti => if keyKind P ti.kind = true then some (f.offset, ti.kind) else none
        | none => none) = some l → eqK l cs ds = some r → (Op.eqFields (d + 1) xs ys fs).run P w = .ok r w
  | [], l, r, _, hl, hr => by
    simp at hl; subst hl
    simp only [eqK] at hr; cases hr
    simp [Op.eqFields]
  | f :: fs, l, r, hf, hl, hr => by
    rw [List.mapM_cons] at hl
    simp only [bind, Option.bind_eq_some_iff, pure, Option.some.injEq] at hl
    obtain ⟨p, hp, l', hl', rfl⟩ := hl
    cases htf : tinf P f.type with
    | none => rw [htf] at hp; cases hp
    | some ti =>
      rw [htf] at hp
      simp only at hp
      split at hp <;> cases hp
      rename_i hkk
      simp only [eqK] at hr
      obtain ⟨hn, ho, ho'⟩ := hf f (by simp)
      obtain ⟨a, p1, r1⟩ := part_ok htf (keyKind_part hkk rfl cs f.offset) ho hs hc h
      obtain ⟨b, p2, r2⟩ := part_ok htf (keyKind_part hkk rfl ds f.offset) ho' hs' hc' h'
      cases hq : c1A ti.kind (cs.getD f.offset .bot) (ds.getD f.offset .bot) with
      | none => rw [hq] at hr; cases hr
      | some q =>
        rw [hq] at hr
        simp only at hr
        cases hq2 : eqK l' cs ds with
        | none => rw [hq2] at hr; cases hr
        | some q2 =>
          rw [hq2] at hr
          cases hr
          have ih := eqFields_run (d := d) hs hc h hs' hc' h' fs (fun g hg => hf g (by simp [hg])) hl' hq2
          have he := c1_run (d := d) htf hkk hq r1 r2
          simp only [Op.eqFields, hn, ne_eq, not_false_eq_true, if_true, Sem.run_bind, p1, p2, he, Result.andThen_ok]
          cases q
          · simp
          · simpa using ih

theorem keyS_spec {t : TypeId} {l : List (Nat × TK)} (h : keyS P t = some l) : ∃ fs i, P.underlying t = some (.struct fs) ∧ P.info? t = some i ∧ (∀ f ∈ fs.toList, f.name ≠ "_" ∧ f.offset < i.size) ∧ P.stoodInHeld t = false ∧ P.eqGuardType P.depth t = false ∧
    fs.toList.map (·.offset) = List.range i.size ∧ (fs.toList.mapM fun f => match tinf P f.type with
        | some ti => if keyKind P ti.kind = true then some (f.offset, ti.kind) else none
        | none => none) = some l := by
  unfold keyS at h
  split at h
  · rename_i fs i hu hi
    split at h
    · rename_i hc
      simp only [Bool.and_eq_true, Bool.not_eq_true', beq_iff_eq] at hc
      obtain ⟨⟨⟨h1, h2⟩, h3⟩, h4⟩ := hc
      refine ⟨fs, i, hu, hi, fun f hf => ?_, h2, h3, h4, h⟩
      have := Array.all_eq_true_iff_forall_mem.1 h1 f (Array.mem_toList_iff.1 hf)
      simpa using this
    · cases h
  · cases h

theorem eqAgg_run {t : TypeId} {l : List (Nat × TK)} {d n : Nat} {cs ds : List AV} {a b : Value} {r : Bool} {i : TypeInfo} (hk : keyS P t = some l) (hi : P.info? t = some i) (hl : cs.length = i.size) (hl' : ds.length = i.size) (h : eqK l cs ds = some r)
    (hx : RV G w (.agg cs) a) (hy : RV G w (.agg ds) b) : (Op.equalIn (d + 2) t a b).run P w = .ok r w := by
  obtain ⟨fs, i', h1, h2, h3, h4, h5, h6, h7⟩ := keyS_spec hk
  rw [hi] at h2; cases h2
  cases hx with
  | agg _ xs hs hc hh =>
    cases hy with
    | agg _ ys hs' hc' hh' =>
      have hf : P.fieldsOf t = fs := by simp [Program.fieldsOf, h1]
      rw [run_equalIn_struct w (d + 1) t xs ys (by rw [hf]; exact h1) h4, hf]
      exact eqFields_run hs hc hh hs' hc' hh' fs.toList (fun f hff => ⟨(h3 f hff).1, by rw [hl]; exact (h3 f hff).2, by rw [hl']; exact (h3 f hff).2⟩) h7 h

/-- the search for a key -/
def findA (l : List (Nat × TK)) (ks : List AV) : List (AV × AV) → Nat → Option (Option (Nat × AV))
  | [], _ => some none
  | (.agg ds, v) :: es, i => if ds.length = ks.length then match eqK l ks ds with
    | some true => some (some (i, v))
    | some false => findA l ks es (i + 1)
    | none => none
    else none
  | _ :: _, _ => none

def EntOk (G : Ghost) (w : World) (es : List (AV × AV)) (ms : List MapEntry) : Prop :=
  ms.length = es.length ∧ ∀ j, j < es.length → RV G w (es.getD j (.bot, .bot)).1 (ms.getD j default).key ∧ RV G w (es.getD j (.bot, .bot)).2 (ms.getD j default).val

theorem findAsking_run {t : TypeId} {l : List (Nat × TK)} {ks : List AV} {a : Value} {i : TypeInfo} (hk : keyS P t = some l) (hi : P.info? t = some i) (hl : ks.length = i.size) (hx : RV G w (.agg ks) a) :
    ∀ (es : List (AV × AV)) (ms : List MapEntry) (n : Nat) {r : Option (Nat × AV)}, EntOk G w es ms → findA l ks es n = some r →
      (r = none ∧ (Instr.findAsking t a ms n).run P w = .ok none w) ∨ ∃ j v x, r = some (n + j, v) ∧ j < es.length ∧ (es.getD j (.bot, .bot)).2 = v ∧ RV G w v x ∧ (Instr.findAsking t a ms n).run P w = .ok (some (n + j, x)) w ∧ (∃ ds, (es.getD j (.bot, .bot)).1 = .agg ds ∧ ds.length = ks.length ∧ eqK l ks ds = some true)
  | [], [], n, r, _, hf => by
    simp only [findA] at hf; cases hf
    exact .inl ⟨rfl, by simp [Instr.findAsking]⟩
  | [], _ :: _, n, r, he, hf => by have := he.1; simp at this
  | _ :: _, [], n, r, he, hf => by have := he.1; simp at this
  | (k, v) :: es, m :: ms, n, r, he, hf => by
    have h0 := he.2 0 (by simp)
    simp only [List.getD_cons_zero] at h0
    have het : EntOk G w es ms := ⟨by have := he.1; simpa using this, fun j hj => by have := he.2 (j + 1) (by simpa using hj); simpa using this⟩
    cases k <;> simp only [findA] at hf <;> try (cases hf; done)
    rename_i ds
    split at hf
    · rename_i hdl
      cases hq : eqK l ks ds with
      | none => rw [hq] at hf; cases hf
      | some q =>
        rw [hq] at hf
        have heq : (Op.equal t a m.key).run P w = .ok q w := eqAgg_run (d := 9998) (n := 0) hk hi hl (by rw [hdl, hl]) hq hx h0.1
        cases q with
        | true =>
          simp only at hf; cases hf
          refine .inr ⟨0, v, m.val, rfl, by simp, rfl, h0.2, ?_, ds, rfl, hdl, hq⟩
          simp [Instr.findAsking, heq, Result.andThen]
        | false =>
          simp only at hf
          rcases findAsking_run hk hi hl hx es ms (n + 1) het hf with ⟨h1, h2⟩ | ⟨j, v', x, h1, h2, h3, h4, h5, h6⟩
          · exact .inl ⟨h1, by simp [Instr.findAsking, heq, Result.andThen, h2]⟩
          · refine .inr ⟨j + 1, v', x, by rw [h1]; congr 2; omega, by simpa using h2, by simpa using h3, h4, ?_, by simpa using h6⟩
            rw [show n + (j + 1) = n + 1 + j by omega]
            simp [Instr.findAsking, heq, Result.andThen, h5]
    · cases hf

theorem checkKind_run {t : TypeId} {ti : TI} {x : AV} {a : Value} (em : Bool) (d : Nat) (ht : tinf P t = some ti) (hk : keyKind P ti.kind = true) (hc : ∀ cs, x ≠ .agg cs) (hx : RV G w x a) : (Instr.checkKey em (d + 1) t a).run P w = .ok () w := by
  obtain ⟨i, dd, h1, h2, h3, h4, h5, h6⟩ := tinf_spec ht
  unfold Instr.checkKey
  cases hkd : ti.kind <;> rw [hkd] at hk h6 <;> simp only [keyKind] at hk <;> try (cases hk; done)
  case int q =>
    obtain rfl := tk_int h6.symm
    simp [run_underlying h2, Result.andThen]
  case bool =>
    obtain rfl := tk_bool h6.symm
    simp [run_underlying h2, Result.andThen]
  case str =>
    obtain rfl := tk_str h6.symm
    simp [run_underlying h2, Result.andThen]
  case ptr e =>
    obtain rfl := tk_ptr h6.symm
    simp [run_underlying h2, Result.andThen]

theorem checkKey_run {t : TypeId} {l : List (Nat × TK)} {ks : List AV} {a : Value} {i : TypeInfo} (em : Bool) (d : Nat) (hk : keyS P t = some l) (hi : P.info? t = some i) (hl : ks.length = i.size) (hlf : ks.all isCell = true) (hx : RV G w (.agg ks) a) :
    (Instr.checkKey em (d + 2) t a).run P w = .ok () w := by
  obtain ⟨fs, i', h1, h2, h3, h4, h5, h6, h7⟩ := keyS_spec hk
  rw [hi] at h2; cases h2
  cases hx with
  | agg _ xs hs hc hh =>
    rw [show d + 2 = (d + 1) + 1 from rfl, Instr.checkKey]
    simp only [Sem.run_bind, run_underlying h1, Result.andThen_ok]
    rw [← Array.forIn_toList]
    clear hk h1 h6
    generalize fs.toList = L at h3 h7
    induction L generalizing l with
    | nil => simp
    | cons f L ih =>
      rw [List.mapM_cons] at h7
      simp only [bind, Option.bind_eq_some_iff, pure, Option.some.injEq] at h7
      obtain ⟨p, hp, l', hl', rfl⟩ := h7
      cases htf : tinf P f.type with
      | none => rw [htf] at hp; cases hp
      | some ti =>
        rw [htf] at hp
        simp only at hp
        split at hp <;> cases hp
        rename_i hkk
        obtain ⟨hn, ho⟩ := h3 f (by simp)
        have hoc : f.offset < ks.length := by rw [hl]; exact ho
        obtain ⟨v, p1, r1⟩ := part_ok htf (keyKind_part hkk rfl ks f.offset) hoc hs hc hh
        have hcell := List.all_eq_true.1 hlf _ (getD_mem (d := .bot) hoc)
        have p2 := checkKind_run em d htf hkk (fun cs e => by rw [e] at hcell; simp [isCell] at hcell) r1
        simp only [List.forIn_cons, Sem.run_bind, hn, ne_eq, not_false_eq_true, if_true, Result.andThen_ok, p1, p2, Sem.run_pure]
        exact ih (fun g hg => h3 g (by simp [hg])) hl'

def zeroV (P : Program) (t : TypeId) : Option AV :=
  match P.info? t with
  | some i => match i.zero with
    | some (.agg cs) => if cs.all (·.oneCell') = true then some (.agg (cs.toList.map const1)) else none
    | some v => if v.oneCell' = true then some (const1 v) else none
    | none => none
  | none => none

def mapInf (P : Program) (t : TypeId) : Option (TypeId × List (Nat × TK) × Nat × AV) :=
  match P.underlying t with
  | some (.map kt et) => match keyS P kt, P.info? kt, zeroV P et with
    | some l, some i, some z => some (kt, l, i.size, z)
    | _, _, _ => none
  | _ => none

theorem mapInf_spec {t kt : TypeId} {l : List (Nat × TK)} {n : Nat} {z : AV} (h : mapInf P t = some (kt, l, n, z)) : ∃ et i, P.underlying t = some (.map kt et) ∧ keyS P kt = some l ∧ P.info? kt = some i ∧ i.size = n ∧ zeroV P et = some z := by
  unfold mapInf at h
  split at h
  · rename_i kt' et hu
    split at h
    · rename_i l' i z' h1 h2 h3
      cases h
      exact ⟨et, i, hu, h1, h2, rfl, h3⟩
    · cases h
  · cases h

theorem zeroV_run {t : TypeId} {z : AV} (h : zeroV P t = some z) : ∃ v, (zeroValue t).run P w = .ok v w ∧ RV G w z v := by
  unfold zeroV at h
  split at h
  · rename_i i hi
    split at h
    · rename_i cs hz
      split at h <;> cases h
      rename_i hc
      have hz' : i.zero = some (.agg cs) := hz
      refine ⟨_, zeroValue_run hi hz' w, ?_⟩
      have := constA_ok G w (.agg cs)
      simp only [constA, hc, if_true] at this
      exact this
    · rename_i v hv hz
      split at h <;> cases h
      rename_i hc
      refine ⟨_, zeroValue_run hi hz w, ?_⟩
      exact const1_ok G w v
    · cases h
  · cases h

theorem makeMap_ok {A : List Box} {base : Nat} {t : TypeId} (h : HRel G A w base) : YV G w base (.map A.length) (A ++ [.mapb []]) ((Instr.makeMap t none).run P w) := by
  have hp := h.push (w' := w.alloc (.map #[] 0)) (.mapb []) 0 0 0 0 kept_alloc (by simp) fun e' => by
    refine ⟨#[], 0, ?_, rfl, fun j hj => by simp at hj, fun o ho => ?_⟩
    · have hb : (G.add w.heap.size 0 0 0 0).blk G.n = w.heap.size := by simp [Ghost.add]
      rw [hb]; exact heap_alloc_new w _
    · have hb : (G.add w.heap.size 0 0 0 0).blk G.n = w.heap.size := by simp [Ghost.add]
      rw [hb] at ho
      have := h.imm _ _ ho
      omega
  refine ⟨_, _, _, run_makeMap t w, ?_, hp.1, hp.2, kept_alloc.below (fun b hb => hb.elim) h.low⟩
  have hb : (G.add w.heap.size 0 0 0 0).blk A.length = w.heap.size := by simp [Ghost.add, h.n]
  have := RV.map (G := G.add w.heap.size 0 0 0 0) (w := w.alloc (.map #[] 0)) A.length (by simp [Ghost.add, h.n])
  rw [hb] at this
  exact this

theorem mapAt {A : List Box} {base i : Nat} {es : List (AV × AV)} (h : HRel G A w base) (hi : i < G.n) (hb : A.getD i .dead = .mapb es) :
    ∃ m clock, w.heap[G.blk i]? = some (.map m clock) ∧ EntOk G w es m.toList ∧ (∀ o, ¬ G.I (G.blk i) o) := by
  have := h.box i (by rw [← h.n]; exact hi)
  rw [hb] at this
  obtain ⟨m, cl, h1, h3, h4, h5⟩ := this
  refine ⟨m, cl, h1, ⟨by simpa using h3, fun j hj => ?_⟩, h5⟩
  have := h4 j hj
  have hjm : j < m.size := by omega
  simpa [List.getD, Array.getD, hjm] using this

/-- what a look into a map yields -/
def lkV (r : Option (Nat × AV)) (z : AV) : AV :=
  match r with
  | some p => p.2
  | none => z
def updA (r : Option (Nat × AV)) (ks : List AV) (v : AV) (es : List (AV × AV)) : List (AV × AV) :=
  match r with
  | some p => es.set p.1 (.agg ks, v)
  | none => es ++ [(.agg ks, v)]
theorem lookup_ok {A : List Box} {base i n : Nat} {t kt : TypeId} {l : List (Nat × TK)} {z : AV} {es : List (AV × AV)} {ks : List AV} {x y : Value} {r : Option (Nat × AV)} (ht : mapInf P t = some (kt, l, n, z)) (hb : A.getD i .dead = .mapb es)
    (hf : findA l ks es 0 = some r) (hl : ks.length = n) (hlf : ks.all isCell = true) (h : HRel G A w base) (hm : RV G w (.map i) x) (hk : RV G w (.agg ks) y) :
    YV G w base (.tuple [lkV r z, .bool r.isSome]) A ((Instr.lookup t x y true).run P w) := by
  obtain ⟨et, info, h1, h2, h3, h4, h5⟩ := mapInf_spec ht
  cases hm with
  | map i hi =>
    obtain ⟨m, cl, g1, g2, g3⟩ := mapAt h hi hb
    have hkt : (match P.underlying kt with | some (.array _ _) | some (.struct _) => true | _ => false) = true := by
      obtain ⟨fs, _, q1, _⟩ := keyS_spec h2
      rw [q1]
    have hck := checkKey_run m.isEmpty 9998 h2 h3 (by rw [hl, h4]) hlf hk
    have hfk := run_findKey_eq (w := w) hkt y m.toList
    have hg : (getObj (G.blk i)).run P w = .ok (.map m cl) w := by simp [getObj, Sem.run, g1]
    have tup : ∀ (v : AV) (a : Value) (b : Bool), RV G w v a → RV G w (.tuple [v, .bool b]) (.tuple #[a, .bool b]) := fun v a b hv => by
      refine .tuple _ _ rfl fun j hj => ?_
      simp only [List.length_cons, List.length_nil] at hj
      match j, hj with
      | 0, _ => simpa using hv
      | 1, _ => simpa using RV.bool b
    rcases findAsking_run h2 h3 (by rw [hl, h4]) hk es m.toList 0 g2 hf with ⟨e1, e2⟩ | ⟨j, v, a, e1, e2, e3, e4, e5, e6⟩
    · obtain ⟨zv, z1, z2⟩ := zeroV_run (w := w) (G := G) h5
      subst e1
      refine .same h (tup z zv false z2) ?_
      simp [Instr.lookup, run_underlying h1, Result.andThen, hg, hck, hfk, e2, z1]
    · subst e1
      refine .same h (tup v a true e4) ?_
      simp [Instr.lookup, run_underlying h1, Result.andThen, hg, hck, hfk, e5]

theorem lookup1_ok {A : List Box} {base i n : Nat} {t kt : TypeId} {l : List (Nat × TK)} {z : AV} {es : List (AV × AV)} {ks : List AV} {x y : Value} {r : Option (Nat × AV)} (ht : mapInf P t = some (kt, l, n, z)) (hb : A.getD i .dead = .mapb es)
    (hf : findA l ks es 0 = some r) (hl : ks.length = n) (hlf : ks.all isCell = true) (h : HRel G A w base) (hm : RV G w (.map i) x) (hk : RV G w (.agg ks) y) :
    YV G w base (lkV r z) A ((Instr.lookup t x y false).run P w) := by
  obtain ⟨et, info, h1, h2, h3, h4, h5⟩ := mapInf_spec ht
  cases hm with
  | map i hi =>
    obtain ⟨m, cl, g1, g2, g3⟩ := mapAt h hi hb
    have hkt : (match P.underlying kt with | some (.array _ _) | some (.struct _) => true | _ => false) = true := by
      obtain ⟨fs, _, q1, _⟩ := keyS_spec h2
      rw [q1]
    have hck := checkKey_run m.isEmpty 9998 h2 h3 (by rw [hl, h4]) hlf hk
    have hfk := run_findKey_eq (w := w) hkt y m.toList
    have hg : (getObj (G.blk i)).run P w = .ok (.map m cl) w := by simp [getObj, Sem.run, g1]
    rcases findAsking_run h2 h3 (by rw [hl, h4]) hk es m.toList 0 g2 hf with ⟨e1, e2⟩ | ⟨j, v, a, e1, e2, e3, e4, e5, e6⟩
    · obtain ⟨zv, z1, z2⟩ := zeroV_run (w := w) (G := G) h5
      subst e1
      refine .same h z2 ?_
      simp [Instr.lookup, run_underlying h1, Result.andThen, hg, hck, hfk, e2, z1]
    · subst e1
      refine .same h e4 ?_
      simp [Instr.lookup, run_underlying h1, Result.andThen, hg, hck, hfk, e5]

theorem eqK_all {l : List (Nat × TK)} {xs ys : List AV} (h : eqK l xs ys = some true) : ∀ p ∈ l, c1A p.2 (xs.getD p.1 .bot) (ys.getD p.1 .bot) = some true := by
  induction l with
  | nil => simp
  | cons p l ih =>
    obtain ⟨o, k⟩ := p
    simp only [eqK] at h
    split at h
    · rename_i r hr
      split at h
      · rename_i q hq
        injection h with h
        simp only [Bool.and_eq_true] at h
        obtain ⟨rfl, rfl⟩ := h
        intro p hp
        rcases List.mem_cons.1 hp with rfl | hp
        · exact hr
        · exact ih hq p hp
      · cases h
    · cases h

theorem offs_of {l : List (Nat × TK)} : ∀ (fs : List Field), (fs.mapM fun f => match tinf P f.type with
        | some ti => if keyKind P ti.kind = true then some (f.offset, ti.kind) else none
        | none => none) = some l → l.map (·.1) = fs.map (·.offset) := by
  intro fs
  induction fs generalizing l with
  | nil => intro h; simp at h; subst h; rfl
  | cons f fs ih =>
    intro h
    rw [List.mapM_cons] at h
    simp only [bind, Option.bind_eq_some_iff, pure, Option.some.injEq] at h
    obtain ⟨p, hp, l', hl', rfl⟩ := h
    split at hp
    · split at hp <;> cases hp
      simp [ih hl']
    · cases hp

theorem c1_same {k : TK} {x y : AV} {a b : Value} {n : Nat} (h : c1A k x y = some true) (hx : RV G w x a) (hy : RV G w y b) : Instr.sameBits n b a = true := by
  unfold c1A at h
  split at h
  · split at h
    · rename_i hk
      subst hk
      injection h with h
      obtain rfl := of_decide_eq_true h
      cases hx; cases hy
      simp [Instr.sameBits]
    · cases h
  · injection h with h
    obtain rfl := of_decide_eq_true h
    cases hx; cases hy
    simp only [Instr.sameBits]
    rw [beq_toListBytes]; simp
  · cases hx; cases hy
    simp at h
    subst h
    simp [Instr.sameBits]
  · injection h with h
    obtain ⟨rfl, rfl⟩ := of_decide_eq_true h
    cases hx; cases hy
    simp [Instr.sameBits]
  · cases h

theorem same_key {t : TypeId} {l : List (Nat × TK)} {ks ds : List AV} {a b : Value} {i : TypeInfo} (hk : keyS P t = some l) (hi : P.info? t = some i) (hl : ks.length = i.size) (hl' : ds.length = ks.length) (h : eqK l ks ds = some true)
    (hx : RV G w (.agg ks) a) (hy : RV G w (.agg ds) b) : Instr.sameBits 10000 b a = true := by
  obtain ⟨fs, i', h1, h2, h3, h4, h5, h6, h7⟩ := keyS_spec hk
  rw [hi] at h2; cases h2
  have ho := offs_of fs.toList h7
  have hall := eqK_all h
  cases hx with
  | agg _ xs hs hc hh =>
    cases hy with
    | agg _ ys hs' hc' hh' =>
      have hsz : ys.size = xs.size := by omega
      simp only [Instr.sameBits, hsz, beq_self_eq_true, Bool.true_and, List.all_eq_true]
      intro p hp
      obtain ⟨j, hj, rfl⟩ := List.mem_iff_getElem.1 hp
      simp only [List.length_zip, Array.length_toList] at hj
      have hjk : j < ks.length := by omega
      have hjr : j ∈ l.map (·.1) := by rw [ho, h6]; exact List.mem_range.2 (by omega)
      obtain ⟨q, hq, rfl⟩ := List.mem_map.1 hjr
      have h8 := hall q hq
      have r1 := hh q.1 hjk
      have r2 := hh' q.1 (by omega)
      have e1 : xs.getD q.1 undef = xs[q.1] := by simp [Array.getD, show q.1 < xs.size by omega]
      have e2 : ys.getD q.1 undef = ys[q.1] := by simp [Array.getD, show q.1 < ys.size by omega]
      rw [e1] at r1
      rw [e2] at r2
      simpa using c1_same (n := 9999) h8 r1 r2

theorem mapUpdate_ok {A : List Box} {base i n : Nat} {t kt : TypeId} {l : List (Nat × TK)} {z v : AV} {es : List (AV × AV)} {ks : List AV} {x y u : Value} {r : Option (Nat × AV)} (ht : mapInf P t = some (kt, l, n, z)) (hb : A.getD i .dead = .mapb es)
    (hf : findA l ks es 0 = some r) (hl : ks.length = n) (hlf : ks.all isCell = true) (h : HRel G A w base) (hm : RV G w (.map i) x) (hk : RV G w (.agg ks) y) (hv : RV G w v u) :
    ∃ w' G', (Instr.mapUpdate t x y u).run P w = .ok () w' ∧ HRel G' (A.set i (.mapb (updA r ks v es))) w' base ∧ Ext G w G' w' ∧ Below base w w' := by
  obtain ⟨et, info, h1, h2, h3, h4, h5⟩ := mapInf_spec ht
  cases hm with
  | map i hi =>
    obtain ⟨m, cl, g1, g2, g3⟩ := mapAt h hi hb
    have hil : i < A.length := by rw [← h.n]; exact hi
    have hlive : (A.getD i .dead).live = true := by rw [hb]; rfl
    have hkt : (match P.underlying kt with | some (.array _ _) | some (.struct _) => true | _ => false) = true := by
      obtain ⟨fs, _, q1, _⟩ := keyS_spec h2
      rw [q1]
    have hck := checkKey_run false 9998 h2 h3 (by rw [hl, h4]) hlf hk
    have hfk := run_findKey_eq (w := w) hkt y m.toList
    have hg : (getObj (G.blk i)).run P w = .ok (.map m cl) w := by simp [getObj, Sem.run, g1]
    have hbs : G.blk i < w.heap.size := (Array.getElem?_eq_some_iff.1 g1).1
    have hms : m.size = es.length := by have := g2.1; simpa using this
    have hset : ∀ o, (setObj (G.blk i) o).run P w = .ok () { w with heap := w.heap.setIfInBounds (G.blk i) o } := fun o => by simp [setObj, Sem.run, g1]
    have kept : ∀ o, Kept (fun b => b = G.blk i) w { w with heap := w.heap.setIfInBounds (G.blk i) o } := fun o => ⟨rfl, rfl, rfl, by simp, fun b hb hne => by simp [Ne.symm hne]⟩
    have entry : ∀ (es' : List (AV × AV)) (m' : Array MapEntry) (cl' : Nat), m'.size = es'.length → (∀ j, j < es'.length → RV G w (es'.getD j (.bot, .bot)).1 (m'.getD j default).key ∧ RV G w (es'.getD j (.bot, .bot)).2 (m'.getD j default).val) →
        HRel G (A.set i (.mapb es')) { w with heap := w.heap.setIfInBounds (G.blk i) (.map m' cl') } base ∧ Ext G w G { w with heap := w.heap.setIfInBounds (G.blk i) (.map m' cl') } := fun es' m' cl' hs he =>
      h.set (.mapb es') hil hlive (kept _) (fun o ho => absurd ho (g3 o)) (fun o ho => absurd ho (g3 o)) fun e' => ⟨m', cl', by simp [hbs], hs, fun j hj => ⟨(he j hj).1.mono e', (he j hj).2.mono e'⟩, g3⟩
    have old : ∀ j, j < es.length → RV G w (es.getD j (.bot, .bot)).1 (m.getD j default).key ∧ RV G w (es.getD j (.bot, .bot)).2 (m.getD j default).val := fun j hj => by
      have := g2.2 j hj
      have hjm : j < m.size := by omega
      simpa [List.getD, Array.getD, hjm] using this
    rcases findAsking_run h2 h3 (by rw [hl, h4]) hk es m.toList 0 g2 hf with ⟨e1, e2⟩ | ⟨j, v0, a, e1, e2, e3, e4, e5, ds, e6, e7, e8⟩
    · subst e1
      obtain ⟨p1, p2⟩ := entry (es ++ [(.agg ks, v)]) (m.push { key := y, val := u, born := cl }) (cl + 1) (by simp [hms]) (fun j hj => by
        simp only [List.length_append, List.length_singleton] at hj
        by_cases hjl : j < es.length
        · have := old j hjl
          have hjm : j < m.size := by omega
          rw [getD_append_left hjl]
          have e : (m.push { key := y, val := u, born := cl }).getD j default = m.getD j default := by
            simp [Array.getD, hjm, Array.getElem_push, Nat.lt_succ_of_lt hjm]
          rw [e]; exact this
        · obtain rfl : j = es.length := by omega
          have e : (m.push { key := y, val := u, born := cl }).getD es.length default = { key := y, val := u, born := cl } := by
            simp [Array.getD, ← hms]
          rw [e]
          have e' : (es ++ [(AV.agg ks, v)]).getD es.length (.bot, .bot) = (.agg ks, v) := by simp [List.getD]
          rw [e']; exact ⟨hk, hv⟩)
      refine ⟨_, G, ?_, p1, p2, (kept _).below (fun b hb => by rw [hb]; exact (h.bnd i hil hlive).1) h.low⟩
      simp [Instr.mapUpdate, run_underlying h1, Result.andThen, hg, hck, hfk, e2, hset]
    · subst e1
      have hjm : j < m.size := by omega
      have hkey := (old j e2).1
      rw [e6] at hkey
      have hmj : m.getD j default = m[j] := by simp [Array.getD, hjm]
      rw [hmj] at hkey
      have hsb := same_key h2 h3 (by rw [hl, h4]) e7 e8 hk hkey
      obtain ⟨p1, p2⟩ := entry (es.set j (.agg ks, v)) (m.modify j fun e => { e with key := y, val := u }) cl (by simp [hms]) (fun k hkl => by
        simp only [List.length_set] at hkl
        have hkm : k < m.size := by omega
        by_cases hkj : j = k
        · subst hkj
          rw [getD_set_self hkl]
          have e : (m.modify j fun e => { e with key := y, val := u }).getD j default = { m[j] with key := y, val := u } := by simp [Array.getD, hjm, Array.getElem_modify]
          rw [e]; exact ⟨hk, hv⟩
        · rw [getD_set_ne' hkj]
          have e : (m.modify j fun e => { e with key := y, val := u }).getD k default = m.getD k default := by simp [Array.getD, hkm, Array.getElem_modify, hkj]
          rw [e]; exact old k hkl)
      refine ⟨_, G, ?_, by simpa [updA] using p1, p2, (kept _).below (fun b hb => by rw [hb]; exact (h.bnd i hil hlive).1) h.low⟩
      simp [Instr.mapUpdate, run_underlying h1, Result.andThen, hg, hck, hfk, e5, hset, hjm, Instr.keyThatStays, hsb]

def aggEq (P : Program) (t : TypeId) (n : Nat) (op : BinOp) : AV → AV → Option (Prop × AV)
  | .agg xs, .agg ys => match keyS P t with
    | some l => match eqK l xs ys with
      | some r => match op with
        | .eql => some (xs.length = n ∧ ys.length = n, .bool r)
        | .neq => some (xs.length = n ∧ ys.length = n, .bool (!r))
        | _ => none
      | none => none
    | none => none
  | _, _ => none

theorem aggEq_ok {A : List Box} {base : Nat} {t : TypeId} {ti : TI} {op : BinOp} {ox oy : Operand} {x y v : AV} {a b : Value} {c : Prop}
    (ht : tinf P t = some ti) (hv : aggEq P t ti.size op x y = some (c, v)) (hp : c) (h : HRel G A w base) (hx : RV G w x a) (hy : RV G w y b) :
    YV G w base v A ((do eqGuard op t ox oy a b; binOp op t a b : Sem Value).run P w) := by
  obtain ⟨i, d, h1, h2, h3, h4, h5, h6⟩ := tinf_spec ht
  cases x <;> simp only [aggEq] at hv <;> try (cases hv; done)
  cases y <;> simp only [aggEq] at hv <;> try (cases hv; done)
  rename_i cs ds
  split at hv <;> try cases hv
  rename_i l hl
  split at hv <;> try cases hv
  rename_i r hr
  obtain ⟨fs, i', g1, g2, g3, g4, g5, g6, g7⟩ := keyS_spec hl
  have key : cs.length = ti.size → ds.length = ti.size → (Op.equalIn 10000 t a b).run P w = .ok r w := fun e1 e2 => eqAgg_run (d := 9998) (n := 0) hl h1 (by rw [e1, h3]) (by rw [e2, h3]) hr hx hy
  have sh : ∃ xs ys, a = .agg xs ∧ b = .agg ys := by cases hx; cases hy; exact ⟨_, _, rfl, rfl⟩
  obtain ⟨xs, ys, rfl, rfl⟩ := sh
  have hg := run_eqGuard_agg w op t ox oy xs ys g5
  split at hv <;> cases hv
  · refine .same h (.bool _) ?_
    simp only [Sem.run_bind, hg, Result.andThen_ok, run_eql_struct, key hp.1 hp.2]
  · refine .same h (.bool _) ?_
    simp only [Sem.run_bind, hg, Result.andThen_ok, run_neq_struct, key hp.1 hp.2]


/-- a row is cut short: its block changes hands -/
def cutOwn (A : List Box) (te : Option TI) (x : AV) (h : Int) : Option (Prop × AV × List Box) :=
  match x, te with
  | .own i, some te => match A.getD i .dead with
    | .row sz rows s => some (te.size = sz ∧ (s : Int) ≤ h ∧ h ≤ rows.length, .own A.length, A.set i .dead ++ [.row sz (rows.take h.toNat) s])
    | _ => none
  | _, _ => none

theorem cutOwn_ok {A A' : List Box} {base : Nat} {t e : TypeId} {ti te : TI} {x v : AV} {y : Value} {k : IntKind} {n : Int} {c : Prop}
    (ht : tinf P t = some ti) (hk : ti.kind = .slice e) (hte : tinf P e = some te) (hv : cutOwn A (some te) x n = some (c, v, A')) (hp : c) (h : HRel G A w base) (hx : RV G w x y) :
    YV G w base v A' ((Instr.sliceAt t y none (some (.int k n)) none).run P w) := by
  obtain ⟨i0, d, h1, h2, h3, h4, h5, h6⟩ := tinf_spec ht
  obtain ⟨ie, de, g1, g2, g3, g4, g5, g6⟩ := tinf_spec hte
  rw [h6] at hk
  obtain rfl := tk_slice hk
  unfold cutOwn at hv
  split at hv <;> try cases hv
  rename_i i te' hteq
  split at hv <;> try cases hv
  rename_i sz rows s hb
  injection hteq with hteq
  subst hteq
  obtain ⟨p1, p2, p3⟩ := hp
  cases hx with
  | own i hi =>
    have hil : i < A.length := by rw [← h.n]; exact hi
    have hlive : (A.getD i .dead).live = true := by rw [hb]; rfl
    have hbox := h.box i hil
    rw [hb] at hbox
    obtain ⟨cc, el, q1, q3, q4, q5, q6, q7, q8, q9, q10, q11⟩ := hbox
    have hbd := sliceBounds_run (P := P) (w := w) (b := true) (lo := none) (hi := some (.int k n)) (l := none) (h := some n) (len := rows.length) (cap := G.cap i) (by simp) (by simp) (fun x hx => by cases hx; exact ⟨k, n, rfl, rfl⟩) (by simp) (by simp) (by simp; omega) (by simp; omega) q5
    simp only [Option.getD_none, Option.getD_some] at hbd
    have hmin : min n.toNat rows.length = n.toNat := by omega
    have hh := h.hand (w' := w) (.row sz (rows.take n.toNat) s) (G.off i) n.toNat (G.cap i) sz hil hlive ⟨rfl, rfl, rfl, Nat.le_refl _, fun _ _ _ => rfl⟩ (fun _ _ => rfl) (fun _ _ f => f) fun e' => by
      have hbb : (G.add (G.blk i) (G.off i) n.toNat (G.cap i) sz).blk G.n = G.blk i := by simp [Ghost.add]
      have ho : (G.add (G.blk i) (G.off i) n.toNat (G.cap i) sz).off G.n = G.off i := by simp [Ghost.add]
      have hcp : (G.add (G.blk i) (G.off i) n.toNat (G.cap i) sz).cap G.n = G.cap i := by simp [Ghost.add]
      refine ⟨cc, el, by rw [hbb]; exact q1, q3, by simp [Ghost.add]; omega, by rw [hcp, List.length_take]; omega, by simp [Ghost.add], by rw [ho, hcp]; exact q7, by rw [List.length_take]; omega, fun r hr => q9 r (List.mem_of_mem_take hr), fun a b ha hb' => ?_, fun o ho' hI => ?_⟩
      · rw [ho]
        rw [List.length_take] at ha
        have e1 : rowAt (rows.take n.toNat) a b = rowAt rows a b := by
          unfold rowAt
          rw [getD_take _ _ _ _ (by omega)]
        rw [e1]
        exact (q10 a b (by omega) hb').mono e'
      · rw [ho] at ho'
        rw [hbb] at hI
        exact q11 o ho' hI
    have hnew : (G.add (G.blk i) (G.off i) n.toNat (G.cap i) sz).n = A.length + 1 := by simp [Ghost.add, h.n]
    have hrv := RV.own (G := G.add (G.blk i) (G.off i) n.toNat (G.cap i) sz) (w := w) A.length (by rw [hnew]; omega)
    have e2 : (G.add (G.blk i) (G.off i) n.toNat (G.cap i) sz).blk A.length = G.blk i := by simp [Ghost.add, h.n]
    have e3 : (G.add (G.blk i) (G.off i) n.toNat (G.cap i) sz).off A.length = G.off i := by simp [Ghost.add, h.n]
    have e4 : (G.add (G.blk i) (G.off i) n.toNat (G.cap i) sz).len A.length = n.toNat := by simp [Ghost.add, h.n]
    have e5 : (G.add (G.blk i) (G.off i) n.toNat (G.cap i) sz).cap A.length = G.cap i := by simp [Ghost.add, h.n]
    rw [e2, e3, e4, e5] at hrv
    refine ⟨_, w, _, ?_, hrv, hh.1, hh.2, Below.refl _ _⟩
    rw [q4]
    by_cases hz : G.cap i = 0
    · rw [hz] at hbd
      simp [Instr.sliceAt, Instr.slice, run_underlying h2, Result.andThen, hbd, sizeOf_run g1, hz]
    · simp [Instr.sliceAt, Instr.slice, run_underlying h2, Result.andThen, hbd, sizeOf_run g1, hz, Addr.add]
end
end Go.Abs
