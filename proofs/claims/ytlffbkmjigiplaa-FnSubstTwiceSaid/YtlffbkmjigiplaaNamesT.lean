/- The names of a type: the model's. -/
import Derived.Test.YtlffbkmjigiplaaSameSp
import Derived.Test.YtlffbkmjigiplaaTypesVal
import Derived.Test.YtlffbkmjigiplaaAbsW3
set_option linter.unusedVariables false
set_option linter.unusedSimpArgs false
namespace Go.Proofs.Ytlffbkmjigiplaa
open Go.Abs

abbrev Nm := List UInt8 × List UInt8
def nty (p : Nm) : Ty := .mk 3 p.1 p.2 []
def nrows (ns : List Nm) : List (List AV) := encs (ns.map nty)
noncomputable def addN (ns : List Nm) (p : Nm) : List Nm := if p ∈ ns then ns else ns ++ [p]
noncomputable def nmsV : List Nm → VT → List Nm
  | ns, .num => ns
  | ns, .nm m k => addN ns (m, k)
  | ns, .fn a b => nmsV (nmsV ns a) b
def allV (p : Nm → Bool) : VT → Bool
  | .num => true
  | .nm m k => p (m, k)
  | .fn a b => allV p a && allV p b
theorem addN_all (p : Nm → Bool) (ns : List Nm) (x : Nm) : (addN ns x).all p = (ns.all p && p x) := by
  unfold addN
  split
  · rename_i h
    rw [Bool.eq_iff_iff]
    simp only [List.all_eq_true, Bool.and_eq_true]
    exact ⟨fun hh => ⟨hh, hh x h⟩, fun hh => hh.1⟩
  · simp
theorem nmsV_all (p : Nm → Bool) : ∀ (v : VT) (ns : List Nm), (nmsV ns v).all p = (ns.all p && allV p v)
  | .num, ns => by simp [nmsV, allV]
  | .nm m k, ns => by simp [nmsV, allV, addN_all]
  | .fn a b, ns => by rw [nmsV, nmsV_all p b, nmsV_all p a, allV, Bool.and_assoc]
theorem addN_len (ns : List Nm) (p : Nm) : (addN ns p).length ≤ ns.length + 1 := by unfold addN; split <;> simp
theorem nmsV_len : ∀ (v : VT) (ns : List Nm), (nmsV ns v).length ≤ ns.length + cnt v
  | .num, ns => by simp [nmsV, cnt]
  | .nm m k, ns => by simp only [nmsV, cnt]; exact addN_len _ _
  | .fn a b, ns => by
    have h1 := nmsV_len a ns
    have h2 := nmsV_len b (nmsV ns a)
    simp only [nmsV, cnt]; omega

/-- names that were collected -/
def OwnL (A : List Box) (ns : List Nm) (r : AV) : Prop :=
  (r = .nils ∧ ns = []) ∨ ∃ j, r = .own j ∧ j < A.length ∧ A.getD j .dead = .row 4 (nrows ns) 0
/-- nothing but the list changes -/
def FrN (r r' : AV) (A A' : List Box) : Prop := A.length ≤ A'.length ∧ (r' = r ∨ ∃ j, r' = .own j ∧ A.length ≤ j) ∧ ∀ k, k < A.length → r ≠ .own k → A'.getD k .dead = A.getD k .dead
theorem FrN.refl (r : AV) (A : List Box) : FrN r r A A := ⟨Nat.le_refl _, .inl rfl, fun _ _ _ => rfl⟩
theorem FrN.trans {r r1 r2 : AV} {A B C : List Box} (h : FrN r r1 A B) (k : FrN r1 r2 B C) : FrN r r2 A C := by
  obtain ⟨a1, a2, a3⟩ := h
  obtain ⟨b1, b2, b3⟩ := k
  refine ⟨by omega, ?_, fun x hx hr => ?_⟩
  · rcases b2 with rfl | ⟨j, rfl, hj⟩
    · exact a2
    · exact .inr ⟨j, rfl, by omega⟩
  · rw [b3 x (by omega) ?_, a3 x hx hr]
    rcases a2 with rfl | ⟨j, rfl, hj⟩
    · exact hr
    · intro e; injection e with e; omega
theorem OwnL.app {A : List Box} {ns : List Nm} {r : AV} (h : OwnL A ns r) (B : List Box) : OwnL (A ++ B) ns r := by
  rcases h with h | ⟨j, h1, h2, h3⟩
  · exact .inl h
  · exact .inr ⟨j, h1, by simp; omega, by rw [Abs.getD_append_left h2]; exact h3⟩
theorem FrN.app (r : AV) (A B : List Box) : FrN r r A (A ++ B) := ⟨by simp, .inl rfl, fun k hk _ => Abs.getD_append_left hk⟩
theorem nrows_length (ns : List Nm) : (nrows ns).length = ns.length := by rw [nrows, encs_length]; simp
theorem nrows_getD {ns : List Nm} {i : Nat} (h : i < ns.length) : (nrows ns).getD i [] = [.int .i64 3, .str (ns.getD i ([], [])).1, .str (ns.getD i ([], [])).2, .slice []] := by
  rw [nrows, encs_getD (by simpa using h)]
  have : (ns.map nty).getD i ty0 = nty (ns.getD i ([], [])) := by simp [List.getD, h]
  rw [this, nty, enc]
  simp [encs]
theorem nty_enc (p : Nm) : enc (nty p) = [.int .i64 3, .str p.1, .str p.2, .slice []] := by rw [nty, enc]; simp [encs]
theorem nty_ok {p : Nm} (h : p.1.length < 2 ^ 63 ∧ p.2.length < 2 ^ 63) : (nty p).Ok := .mk h.1 h.2 (by simp) (by simp)
theorem nty_inj {p q : Nm} : (nty p = nty q) = (p = q) := by
  simp [nty, Prod.ext_iff]

set_option maxRecDepth 100000 in
theorem copy_name (m k : List UInt8) (A : List Box) : ACalls Try.prog 26 [.agg [.int .i64 3, .str m, .str k, .slice []]] A (fun r A' => r = .agg [.int .i64 3, .str m, .str k, .slice []] ∧ A' = A) := by
  refine acalls_enter (cf := cf 31 [0, 1, 2, 3, 4, 16]) foll Try.func26 Try.ntmps26 (by simp [cf]) ?_
  simp only [Try.f26, EnterK_some, zW, zX, zD, builtinA, isLeaf, const1, Nat.reduceAdd, Nat.reduceMul, Nat.reduceSub, Nat.reduceLT, Nat.reduceLeDiff, Nat.reduceEqDiff, Nat.reduceBEq, Nat.reduceBNe, reduceIte, reduceCtorEq, Int.reduceToNat, Int.reduceLT, Int.reduceLE, Int.reduceEq, Int.reduceNe, Int.reduceNeg, ustrA, ti3, ti9, ti23, ti25, ca26, cf, Try.results26]
  refine aloop_intro [1, 2, 3, 4] (fun e A' => e = [(1, .ptr A.length 0), (2, .ptr (A.length + 1) 0), (3, .ptr (A.length + 2) 0), (4, .int .i64 0)] ∧ A' = A ++ [.cells [.int .i64 3, .str m, .str k, .slice []], .cells [.int .i64 0, .str [], .str [], .nils], .cells [.int .i64 3, .str m, .str k, .nils]]) (fun e _ => 0) ?_ ?_
  · simp only [zW, zX, zD, builtinA, isLeaf, const1, Nat.reduceAdd, Nat.reduceMul, Nat.reduceSub, Nat.reduceLT, Nat.reduceLeDiff, Nat.reduceEqDiff, Nat.reduceBEq, Nat.reduceBNe, reduceIte, reduceCtorEq, Int.reduceToNat, Int.reduceLT, Int.reduceLE, Int.reduceEq, Int.reduceNe, Int.reduceNeg, ustrA, ti3, ti9, ti23, ti25, ca26, cf, Try.results26]
  · rintro e A' ⟨rfl, rfl⟩
    simp only [zW, zX, zD, builtinA, isLeaf, const1, Nat.reduceAdd, Nat.reduceMul, Nat.reduceSub, Nat.reduceLT, Nat.reduceLeDiff, Nat.reduceEqDiff, Nat.reduceBEq, Nat.reduceBNe, reduceIte, reduceCtorEq, Int.reduceToNat, Int.reduceLT, Int.reduceLE, Int.reduceEq, Int.reduceNe, Int.reduceNeg, ustrA, ti3, ti9, ti23, ti25, ca26, cf, Try.results26]
    refine condK_intro (fun h => absurd h (by simp)) (fun _ => ?_)
    simp only [zW, zX, zD, builtinA, isLeaf, const1, Nat.reduceAdd, Nat.reduceMul, Nat.reduceSub, Nat.reduceLT, Nat.reduceLeDiff, Nat.reduceEqDiff, Nat.reduceBEq, Nat.reduceBNe, reduceIte, reduceCtorEq, Int.reduceToNat, Int.reduceLT, Int.reduceLE, Int.reduceEq, Int.reduceNe, Int.reduceNeg, ustrA, ti3, ti9, ti23, ti25, ca26, cf, Try.results26]

def nOk (ns : List Nm) : Prop := ∀ p ∈ ns, p.1.length ≤ 1 ∧ p.2.length ≤ 1
theorem nm_short {m n : List UInt8} (h : nmB m n = true) : n.length = 1 ∧ m.length ≤ 1 := by
  simp only [nmB, Bool.and_eq_true, Bool.or_eq_true, decide_eq_true_eq] at h
  obtain ⟨h1, h2⟩ := h
  have h3 : n.length = 1 := by simp [localB] at h2; exact h2.1
  rcases h1 with h1 | h1
  · exact ⟨h3, by simp [h1]⟩
  · simp [moduleB] at h1; exact ⟨h3, by omega⟩
theorem addN_ok {ns : List Nm} {p : Nm} (h : nOk ns) (hp : p.1.length ≤ 1 ∧ p.2.length ≤ 1) : nOk (addN ns p) := by
  unfold addN
  split
  · exact h
  · intro q hq
    rcases List.mem_append.1 hq with hq | hq
    · exact h q hq
    · rw [List.mem_singleton.1 hq]; exact hp
theorem nmsV_ok : ∀ (v : VT) {ns : List Nm}, nOk ns → okV v = true → nOk (nmsV ns v)
  | .num, ns, h, _ => h
  | .nm m k, ns, h, hv => addN_ok h (by have := nm_short hv; exact ⟨this.2, Nat.le_of_eq this.1⟩)
  | .fn a b, ns, h, hv => by
    simp [okV] at hv
    exact nmsV_ok b (nmsV_ok a h hv.1) hv.2




end Go.Proofs.Ytlffbkmjigiplaa
