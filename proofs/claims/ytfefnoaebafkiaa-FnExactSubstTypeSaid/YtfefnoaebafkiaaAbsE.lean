/- Arithmetic, comparisons, conversions. -/
import Derived.Test.YtfefnoaebafkiaaAbsD
set_option linter.unusedVariables false
set_option linter.unusedSimpArgs false
namespace Go.Abs
open Go.RowKit

def intA (op : BinOp) (k : IntKind) (a b : Int) : Option (Prop × AV) :=
  match op with
  | .add => some (True, .int k (k.wrap (a + b)))
  | .sub => some (True, .int k (k.wrap (a - b)))
  | .mul => some (True, .int k (k.wrap (a * b)))
  | .quo => some (b ≠ 0, .int k (k.wrap (a.tdiv b)))
  | .rem => some (b ≠ 0, .int k (a.tmod b))
  | .xor => some (True, .int k (k.wrap (BitVec.ofInt k.bits a ^^^ BitVec.ofInt k.bits b).toNat))
  | .eql => some (True, .bool (decide (a = b)))
  | .neq => some (True, .bool (!decide (a = b)))
  | .lss => some (True, .bool (decide (a < b)))
  | .leq => some (True, .bool (decide (a ≤ b)))
  | .gtr => some (True, .bool (decide (b < a)))
  | .geq => some (True, .bool (decide (b ≤ a)))
  | _ => none

def strA (op : BinOp) (a b : List UInt8) : Option (Prop × AV) :=
  match op with
  | .add => some (a.length + b.length ≤ 9223372036854775807, .str (a ++ b))
  | .eql => some (True, .bool (decide (a = b)))
  | .neq => some (True, .bool (!decide (a = b)))
  | .lss => some (True, .bool (Op.bytesLess a b))
  | .leq => some (True, .bool (Op.bytesLess a b || decide (a = b)))
  | .gtr => some (True, .bool (!(Op.bytesLess a b || decide (a = b))))
  | .geq => some (True, .bool (!Op.bytesLess a b))
  | _ => none

/-- is it nil? where that can be seen -/
def nilP : AV → Option Bool
  | .nilp => some true
  | .ptr _ _ | .eptr _ _ _ | .vptr _ => some false
  | _ => none
def nilS : AV → Option Bool
  | .nils => some true
  | .own _ => some false
  | _ => none
def nilM : AV → Option Bool
  | .nilm => some true
  | .map _ => some false
  | _ => none

def eqA (k : TK) (x y : AV) : Option Bool :=
  match k, x, y with
  | .bool, .bool a, .bool b => some (a == b)
  | .ptr _, .nilp, y => nilP y
  | .ptr _, x, .nilp => nilP x
  | .iface, .nili, .iface _ _ => some false
  | .iface, .iface _ _, .nili => some false
  | .slice _, .nils, y => nilS y
  | .slice _, x, .nils => nilS x
  | .map _ _, .nilm, y => nilM y
  | .map _ _, x, .nilm => nilM x
  | _, _, _ => none

def binA (op : BinOp) (k : TK) (x y : AV) : Option (Prop × AV) :=
  match x, y with
  | .int k a, .int k' b => if k = k' then intA op k a b else none
  | .str a, .str b => strA op a b
  | x, y =>
    match op with
    | .eql => (eqA k x y).map fun b => (True, .bool b)
    | .neq => (eqA k x y).map fun b => (True, .bool (!b))
    | _ => none

theorem bytes_toList (s : List UInt8) : (⟨s.toArray⟩ : ByteArray).toList = s := ByteArray.toList_eq _

theorem beq_int (a b : Int) : (a == b) = decide (a = b) := by rw [Bool.eq_iff_iff]; simp
theorem beq_list (a b : List UInt8) : (a == b) = decide (a = b) := by rw [Bool.eq_iff_iff]; simp

theorem bytes_append (a b : List UInt8) : (⟨a.toArray⟩ : ByteArray) ++ ⟨b.toArray⟩ = ⟨(a ++ b).toArray⟩ := by
  apply ByteArray.ext; apply Array.ext'; simp

section
variable {e k : TypeId} {ms : Array (String × TypeId)}
theorem eqA_ptr {P : Program} {G : Ghost} {w : World} {t : TypeId} {x y : AV} {a b : Value} {r : Bool} (h2 : P.underlying t = some (.pointer e)) (h : eqA (.ptr e) x y = some r)
    (hx : RV G w x a) (hy : RV G w y b) : (Op.equalIn (9999 + 1) t a b).run P w = .ok r w ∧ ¬ (a = .nilIface ∧ b = .nilIface) ∧ ¬ (∃ c d, a = .agg c ∧ b = .agg d) := by
  unfold Op.equalIn
  simp only [eqA] at h
  cases hx <;> (try (simp [nilP, nilS, nilM] at h; done)) <;> cases hy <;> (try (simp [nilP, nilS, nilM] at h; done)) <;> simp [nilP, nilS, nilM] at h <;> subst h <;> simp [run_underlying h2, Result.andThen]

theorem eqA_iface {P : Program} {G : Ghost} {w : World} {t : TypeId} {x y : AV} {a b : Value} {r : Bool} (h2 : P.underlying t = some (.interface ms)) (h : eqA (.iface) x y = some r)
    (hx : RV G w x a) (hy : RV G w y b) : (Op.equalIn (9999 + 1) t a b).run P w = .ok r w ∧ ¬ (a = .nilIface ∧ b = .nilIface) ∧ ¬ (∃ c d, a = .agg c ∧ b = .agg d) := by
  unfold Op.equalIn
  simp only [eqA] at h
  cases hx <;> (try (simp [nilP, nilS, nilM] at h; done)) <;> cases hy <;> (try (simp [nilP, nilS, nilM] at h; done)) <;> simp [nilP, nilS, nilM] at h <;> subst h <;> simp [run_underlying h2, Result.andThen]

theorem eqA_slice {P : Program} {G : Ghost} {w : World} {t : TypeId} {x y : AV} {a b : Value} {r : Bool} (h2 : P.underlying t = some (.slice e)) (h : eqA (.slice e) x y = some r)
    (hx : RV G w x a) (hy : RV G w y b) : (Op.equalIn (9999 + 1) t a b).run P w = .ok r w ∧ ¬ (a = .nilIface ∧ b = .nilIface) ∧ ¬ (∃ c d, a = .agg c ∧ b = .agg d) := by
  unfold Op.equalIn
  simp only [eqA] at h
  cases hx <;> (try (simp [nilP, nilS, nilM] at h; done)) <;> cases hy <;> (try (simp [nilP, nilS, nilM] at h; done)) <;> simp [nilP, nilS, nilM] at h <;> subst h <;> simp [run_underlying h2, Result.andThen]

theorem eqA_map {P : Program} {G : Ghost} {w : World} {t : TypeId} {x y : AV} {a b : Value} {r : Bool} (h2 : P.underlying t = some (.map k e)) (h : eqA (.map k e) x y = some r)
    (hx : RV G w x a) (hy : RV G w y b) : (Op.equalIn (9999 + 1) t a b).run P w = .ok r w ∧ ¬ (a = .nilIface ∧ b = .nilIface) ∧ ¬ (∃ c d, a = .agg c ∧ b = .agg d) := by
  unfold Op.equalIn
  simp only [eqA] at h
  cases hx <;> (try (simp [nilP, nilS, nilM] at h; done)) <;> cases hy <;> (try (simp [nilP, nilS, nilM] at h; done)) <;> simp [nilP, nilS, nilM] at h <;> subst h <;> simp [run_underlying h2, Result.andThen]

theorem eqA_bool {P : Program} {G : Ghost} {w : World} {t : TypeId} {x y : AV} {a b : Value} {r : Bool} (h2 : P.underlying t = some (.bool)) (h : eqA (.bool) x y = some r)
    (hx : RV G w x a) (hy : RV G w y b) : (Op.equalIn (9999 + 1) t a b).run P w = .ok r w ∧ ¬ (a = .nilIface ∧ b = .nilIface) ∧ ¬ (∃ c d, a = .agg c ∧ b = .agg d) := by
  unfold Op.equalIn
  simp only [eqA] at h
  cases hx <;> (try (simp [nilP, nilS, nilM] at h; done)) <;> cases hy <;> (try (simp [nilP, nilS, nilM] at h; done)) <;> simp [nilP, nilS, nilM] at h <;> subst h <;> simp [run_underlying h2, Result.andThen]

end
theorem eqA_run {P : Program} {G : Ghost} {w : World} {t : TypeId} {ti : TI} {x y : AV} {a b : Value} {r : Bool} (ht : tinf P t = some ti) (h : eqA ti.kind x y = some r)
    (hx : RV G w x a) (hy : RV G w y b) : (Op.equal t a b).run P w = .ok r w ∧ ¬ (a = .nilIface ∧ b = .nilIface) ∧ ¬ (∃ c d, a = .agg c ∧ b = .agg d) := by
  obtain ⟨i, d, h1, h2, h3, h4, h5, h6⟩ := tinf_spec ht
  have hr : Op.equal t a b = Op.equalIn (9999 + 1) t a b := rfl
  rw [hr]
  cases hk : ti.kind <;> rw [hk] at h h6
  case bool =>
    obtain rfl := tk_bool h6.symm
    exact eqA_bool h2 h hx hy
  case ptr e =>
    obtain rfl := tk_ptr h6.symm
    exact eqA_ptr h2 h hx hy
  case iface =>
    obtain ⟨ms, rfl⟩ := tk_iface h6.symm
    exact eqA_iface h2 h hx hy
  case slice e =>
    obtain rfl := tk_slice h6.symm
    exact eqA_slice h2 h hx hy
  case map k e =>
    have : d = .map k e := by cases d <;> simp_all [tkOf]
    subst this
    exact eqA_map h2 h hx hy
  all_goals (exfalso; revert h; simp only [eqA]; cases x <;> simp)

theorem eqGuard_run {P : Program} {w : World} {op : BinOp} {t : TypeId} {ox oy : Operand} {a b : Value} (g1 : ¬ (a = .nilIface ∧ b = .nilIface)) (g2 : ¬ (∃ c d, a = .agg c ∧ b = .agg d)) :
    (eqGuard op t ox oy a b).run P w = .ok () w := by
  cases op
  case eql => cases a <;> first | (simp [eqGuard]; done) | (cases b <;> first | (simp [eqGuard]; done) | exact absurd ⟨rfl, rfl⟩ g1 | exact absurd ⟨_, _, rfl, rfl⟩ g2)
  case neq => cases a <;> first | (simp [eqGuard]; done) | (cases b <;> first | (simp [eqGuard]; done) | exact absurd ⟨rfl, rfl⟩ g1 | exact absurd ⟨_, _, rfl, rfl⟩ g2)
  all_goals simp [eqGuard]

theorem binOp_other {op : BinOp} {t : TypeId} {a b : Value} (ho : op = .eql ∨ op = .neq) (n1 : ∀ k p k' q, ¬ (a = .int k p ∧ b = .int k' q)) (n2 : ∀ k p k' q, ¬ (a = .float k p ∧ b = .float k' q))
    (n3 : ∀ k p p' k' q q', ¬ (a = .complex k p p' ∧ b = .complex k' q q')) (n4 : ∀ p q, ¬ (a = .string p ∧ b = .string q)) :
    binOp op t a b = (do let r ← Op.equal t a b; pure (.bool (if op = .eql then r else !r)) : Sem Value) := by
  rcases ho with rfl | rfl <;> cases a <;> first | rfl | (cases b <;> first | rfl | (exfalso; first | exact n1 _ _ _ _ ⟨rfl, rfl⟩ | exact n2 _ _ _ _ ⟨rfl, rfl⟩ | exact n3 _ _ _ _ _ _ ⟨rfl, rfl⟩ | exact n4 _ _ ⟨rfl, rfl⟩))

theorem RV.noFloat {G : Ghost} {w : World} {x : AV} {a : Value} (h : RV G w x a) (hb : x ≠ .bot) : (∀ k p, a ≠ .float k p) ∧ (∀ k p q, a ≠ .complex k p q) := by
  cases h <;> simp_all

theorem eqA_nobot {k : TK} {x y : AV} {r : Bool} (h : eqA k x y = some r) : x ≠ .bot ∧ y ≠ .bot := by
  constructor
  · rintro rfl; cases k <;> cases y <;> simp [eqA, nilP, nilS, nilM] at h
  · rintro rfl; cases k <;> cases x <;> simp [eqA, nilP, nilS, nilM] at h

theorem bin_ok {P : Program} {G : Ghost} {A : List Box} {w : World} {base : Nat} {t : TypeId} {ti : TI} {op : BinOp} {ox oy : Operand} {x y v : AV} {a b : Value} {c : Prop}
    (ht : tinf P t = some ti) (hv : binA op ti.kind x y = some (c, v)) (hp : c) (h : HRel G A w base) (hx : RV G w x a) (hy : RV G w y b) :
    YV G w base v A ((do eqGuard op t ox oy a b; binOp op t a b : Sem Value).run P w) := by
  unfold binA at hv
  split at hv
  · rename_i k p k' q
    cases hx; cases hy
    split at hv
    · rename_i hkk
      obtain rfl := hkk
      have hg := eqGuard_run (P := P) (w := w) (op := op) (t := t) (ox := ox) (oy := oy) (a := .int k p) (b := .int k q) (by simp) (by simp)
      cases op <;> simp only [intA] at hv <;> try (cases hv; done)
      all_goals
        injection hv with hv; injection hv with hv1 hv2; subst hv1 hv2
      all_goals first
        | exact .same h (.int _ _) (by simp [hg, binOp, Op.intArith, Op.intDiv, Op.intBits, Result.andThen, hp]; done)
        | exact .same h (.bool _) (by simp [hg, binOp, Op.intCmp, Result.andThen, beq_int, bne]; done)
        | exact .same h (.int _ _) (by have := of_eq_true (eq_true hp); simp [hg, binOp, Op.intArith, Op.intDiv, Op.intBits, Result.andThen, this]; done)
    · cases hv
  · rename_i s s'
    cases hx; cases hy
    have hg := eqGuard_run (P := P) (w := w) (op := op) (t := t) (ox := ox) (oy := oy) (a := .string ⟨s.toArray⟩) (b := .string ⟨s'.toArray⟩) (by simp) (by simp)
    have l1 : (⟨s.toArray⟩ : ByteArray).size = s.length := by simp [ByteArray.size]
    have l2 : (⟨s'.toArray⟩ : ByteArray).size = s'.length := by simp [ByteArray.size]
    cases op <;> simp only [strA] at hv <;> try (cases hv; done)
    all_goals
      injection hv with hv; injection hv with hv1 hv2; subst hv1 hv2
    · refine .same h (.str _) ?_
      have : ¬ (((s.length + s'.length : Nat) : Int) > IntKind.i64.max) := by simp [IntKind.max, IntKind.signed, IntKind.bits]; omega
      simp only [binOp, Op.stringOp, l1, l2, this, bytes_append]
      simp [hg, Result.andThen]
    all_goals
      refine .same h (.bool _) ?_
      simp only [binOp, Op.stringOp, bytes_toList, beq_list]
      simp [hg, Result.andThen]
  · rename_i n1 n2
    have key : ∀ r, eqA ti.kind x y = some r → (op = .eql ∨ op = .neq) → (do eqGuard op t ox oy a b; binOp op t a b : Sem Value).run P w = .ok (.bool (if op = .eql then r else !r)) w := fun r hr ho => by
      obtain ⟨e1, e2, e3⟩ := eqA_run ht hr hx hy
      obtain ⟨b1, b2⟩ := eqA_nobot hr
      have f1 := hx.noFloat b1
      have hg := eqGuard_run (P := P) (w := w) (op := op) (t := t) (ox := ox) (oy := oy) e2 e3
      have hb := binOp_other (t := t) (a := a) (b := b) ho (fun k p k' q => by rintro ⟨rfl, rfl⟩; cases hx <;> cases hy <;> first | exact b1 rfl | exact b2 rfl | exact n1 _ _ _ _ rfl rfl) (fun k p k' q hh => f1.1 _ _ hh.1) (fun k p p' k' q q' hh => f1.2 _ _ _ hh.1)
        (fun p q => by rintro ⟨rfl, rfl⟩; cases hx <;> cases hy <;> first | exact b1 rfl | exact b2 rfl | exact n2 _ _ rfl rfl)
      rw [hb]
      simp [hg, e1, Result.andThen]
    split at hv
    · cases hq : eqA ti.kind x y <;> simp only [hq, Option.map] at hv <;> try (cases hv; done)
      injection hv with hv; injection hv with hv1 hv2; subst hv1 hv2
      exact .same h (.bool _) (by rw [key _ hq (.inl rfl)]; simp)
    · cases hq : eqA ti.kind x y <;> simp only [hq, Option.map] at hv <;> try (cases hv; done)
      injection hv with hv; injection hv with hv1 hv2; subst hv1 hv2
      exact .same h (.bool _) (by rw [key _ hq (.inr rfl)]; simp)
    · cases hv

end Go.Abs
