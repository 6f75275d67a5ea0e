/- BldW, Txt, Fmt, FmtSig, FmtI, Binds, OwnTy. -/
import Derived.Test.YtpoknljchikklaaGreatK05
import Derived.Test.YtpoknljchikklaaGreatAbsW3
/- What the methods of strings.Builder do. -/
set_option linter.unusedVariables false
set_option linter.unusedSimpArgs false
namespace Go.Proofs.YtpoknljchikklaaGreat
open Go.Abs

/-- a builder with these bytes, in boxes from n on -/
def BldAt (n : Nat) (A : List Box) (i : Nat) (bs : List UInt8) : Prop :=
  n ≤ i ∧ i < A.length ∧ ∃ p v, A.getD i .dead = .tc TB [p, v] ∧ (p = .nilp ∨ p = .ptr i 0) ∧ ((v = .nils ∧ bs = []) ∨ ∃ j, v = .own j ∧ n ≤ j ∧ j < A.length ∧ i ≠ j ∧ A.getD j .dead = .gr (some TU) 1 (byteRows bs) ∧ bs ≠ [])

def Goes (n : Nat) (A A' : List Box) : Prop := A.length ≤ A'.length ∧ A'.take n = A.take n
theorem Goes.refl (n : Nat) (A : List Box) : Goes n A A := ⟨Nat.le_refl _, rfl⟩
theorem Goes.trans {n : Nat} {A B C : List Box} (h : Goes n A B) (k : Goes n B C) : Goes n A C := ⟨Nat.le_trans h.1 k.1, k.2.trans h.2⟩
theorem Goes.set {n i : Nat} {A A' : List Box} {b : Box} (h : Goes n A A') (hi : n ≤ i) : Goes n A (A'.set i b) := ⟨by simpa using h.1, by rw [List.take_set, List.set_eq_of_length_le (by simp; omega)]; exact h.2⟩
theorem Goes.app {n : Nat} {A A' : List Box} {B : List Box} (h : Goes n A A') (hn : n ≤ A'.length) : Goes n A (A' ++ B) := ⟨by simp; have := h.1; omega, by rw [List.take_append_of_le_length hn]; exact h.2⟩

/-- where the bytes lie behind a write -/
theorem bld_at {n i : Nat} {A : List Box} {B : List Box} {bs : List UInt8} {m : Nat} (hn : n ≤ i) (hil : i < A.length) (hm : n ≤ m) (hml : m < A.length) (him : i ≠ m) (hA : A.getD m .dead = .gr (some TU) 1 (byteRows bs)) (hb : bs ≠ []) :
    BldAt n (A.set i (.tc TB [.ptr i 0, .own m])) i bs :=
  ⟨hn, by simpa using hil, _, _, getD_set_self hil, .inr rfl, .inr ⟨m, rfl, hm, by simpa using hml, him, by rw [getD_set_ne' him]; exact hA, hb⟩⟩

/-- the box in which a builder's bytes lie -/
def rowIx (A : List Box) (i : Nat) : Nat :=
  match A.getD i .dead with
  | .tc _ [_, .own k] => k
  | _ => i
/-- nothing but the builder i changes -/
def Fr (i : Nat) (A A' : List Box) : Prop := A.length ≤ A'.length ∧ (rowIx A' i = rowIx A i ∨ A.length ≤ rowIx A' i) ∧ ∀ k, k < A.length → k ≠ i → k ≠ rowIx A i → A'.getD k .dead = A.getD k .dead
theorem Fr.refl (i : Nat) (A : List Box) : Fr i A A := ⟨Nat.le_refl _, .inl rfl, fun _ _ _ _ => rfl⟩
theorem Fr.trans {i : Nat} {A B C : List Box} (h : Fr i A B) (k : Fr i B C) : Fr i A C := by
  obtain ⟨a1, a2, a3⟩ := h
  obtain ⟨b1, b2, b3⟩ := k
  refine ⟨by omega, by omega, fun x hx hi hr => ?_⟩
  rw [b3 x (by omega) hi (by omega), a3 x hx hi hr]
theorem Fr.app {i : Nat} {A : List Box} (hi : i < A.length) (B : List Box) : Fr i A (A ++ B) := by
  have e : (A ++ B).getD i .dead = A.getD i .dead := Abs.getD_append_left hi
  refine ⟨by simp, .inl (by unfold rowIx; rw [e]), fun k hk _ _ => Abs.getD_append_left hk⟩
theorem BldAt.row_ge {n i : Nat} {A : List Box} {bs : List UInt8} (h : BldAt n A i bs) : n ≤ rowIx A i := by
  obtain ⟨hn, hil, p, v, hA, hp, hv⟩ := h
  unfold rowIx
  rw [hA]
  rcases hv with ⟨rfl, _⟩ | ⟨j, rfl, hj, _⟩
  · exact hn
  · exact hj
theorem Fr.goes {n i : Nat} {A A' : List Box} {bs : List UInt8} (h : Fr i A A') (hb : BldAt n A i bs) : Goes n A A' := by
  have h1 := hb.row_ge
  have h2 := hb.1
  have h3 := hb.2.1
  obtain ⟨a1, a2, a3⟩ := h
  refine ⟨a1, List.ext_getElem? fun k => ?_⟩
  by_cases hk : k < n
  · have := a3 k (by omega) (by omega) (by omega)
    simp only [List.getD] at this
    simp only [List.getElem?_take, hk, if_true]
    have e1 : k < A.length := by omega
    have e2 : k < A'.length := by omega
    simpa [e1, e2] using this
  · simp [List.getElem?_take, hk]
theorem fr_end {i j m : Nat} {A X Y B : List Box} (hil : i < A.length) (hm : A.length ≤ m) (hl : A.length ≤ X.length) (hX : ∀ k, k < A.length → k ≠ i → k ≠ rowIx A i → X.getD k .dead = A.getD k .dead) :
    Fr i A (X.set i (.tc TB [.ptr i 0, .own m])) := by
  refine ⟨by simpa using hl, .inr ?_, fun k hk hi hr => ?_⟩
  · unfold rowIx; rw [getD_set_self (by omega)]; exact hm
  · rw [getD_set_ne' (Ne.symm hi)]; exact hX k hk hi hr

theorem Goes.back {A B C : List Box} (h : Goes A.length (A ++ B) C) : C.take A.length = A := by rw [h.2, List.take_append_of_le_length (Nat.le_refl _), List.take_length]
theorem Goes.outer {A B C : List Box} (h : Goes A.length (A ++ B) C) : Outer A C := by
  have h1 := h.1
  refine ⟨by simp at h1; omega, fun i hi => .inl ?_⟩
  have e : (C.take A.length).getD i .dead = C.getD i .dead := getD_take _ _ _ _ hi
  rw [← e, h.back]

set_option maxRecDepth 100000 in
theorem bld_ws (n : Nat) (A : List Box) (i : Nat) (bs : List UInt8) (s : List UInt8) (h : BldAt n A i bs) (hs : s ≠ []) (hl : bs.length + s.length ≤ 1000000) :
    ACalls Tryz.prog 251 [.ptr i 0, .str s] A (fun r A' => BldAt n A' i (bs ++ s) ∧ Fr i A A') := by
  obtain ⟨hn, hil, p, v, hA, hp, hv⟩ := h
  have hsl : 0 < s.length := List.length_pos_iff.2 hs
  have hx : ∀ x ∈ (s.map fun b => [AV.int .u8 (b.toNat : Nat)]), x.length = 1 := by simp
  rcases hv with ⟨rfl, rfl⟩ | ⟨j, rfl, hnj, hj, hij, hAj, hbs⟩
  · skip
    refine acalls_enterK (cf := cf 19 [0, 1, 4, 5]) foll Tryz.func251 Tryz.ntmps251 (by simp [cf]) ?_
    simp only [Tryz.f251, EnterK_some, zW, zX, zD, builtinA, isLeaf, const1, Nat.reduceAdd, Nat.reduceMul, Nat.reduceSub, Nat.reduceLT, Nat.reduceLeDiff, Nat.reduceEqDiff, Nat.reduceBEq, Nat.reduceBNe, reduceIte, reduceCtorEq, Int.reduceToNat, Int.reduceLT, Int.reduceLE, Int.reduceEq, Int.reduceNe, Int.reduceNeg, ustrA, ti5, ti9, ti22, ti178, ca252, cf, Tryz.results251]
    refine callK_intro (by simp only [zW, zX, zD, builtinA, isLeaf, const1, Nat.reduceAdd, Nat.reduceMul, Nat.reduceSub, Nat.reduceLT, Nat.reduceLeDiff, Nat.reduceEqDiff, Nat.reduceBEq, Nat.reduceBNe, reduceIte, reduceCtorEq, Int.reduceToNat, Int.reduceLT, Int.reduceLE, Int.reduceEq, Int.reduceNe, Int.reduceNeg, ustrA] <;> rfl) (bld_cc A i p _ hA hp) ?_ rfl
    rintro r A' ⟨rfl, rfl⟩
    have g0 : (A.set i (.tc TB [.ptr i 0, .nils])).getD i .dead = .tc TB [.ptr i 0, .nils] := getD_set1 hil
    have g1 : ∀ B, (A.set i (.tc TB [.ptr i 0, .nils]) ++ B).getD i .dead = .tc TB [.ptr i 0, .nils] := fun B => by rw [Abs.getD_append_left (by simpa using hil)]; exact g0
    have g3 : ∀ B C, ((A.set i (.tc TB [.ptr i 0, .nils]) ++ B) ++ C).getD i .dead = .tc TB [.ptr i 0, .nils] := fun B C => by rw [List.append_assoc]; exact g1 _
    simp only [zW, zX, zD, builtinA, isLeaf, const1, Nat.reduceAdd, Nat.reduceMul, Nat.reduceSub, Nat.reduceLT, Nat.reduceLeDiff, Nat.reduceEqDiff, Nat.reduceBEq, Nat.reduceBNe, reduceIte, reduceCtorEq, Int.reduceToNat, Int.reduceLT, Int.reduceLE, Int.reduceEq, Int.reduceNe, Int.reduceNeg, ustrA, ti5, ti9, ti22, ti178, ca252, cf, Tryz.results251, g0, g1, g3]
    refine ⟨⟨hx, by simpa using hsl, by simp; omega⟩, ?_, ?_⟩
    · exact bld_at (B := []) hn (by simp; omega) (by omega : n ≤ A.length) (by simp) (by omega) (by rw [Abs.getD_append_right (by simp)]; simp [byteRows]) hs
    · exact fr_end (j := 0) (Y := []) (B := []) hil (by omega) (by simp) fun k hk hi hr => by rw [Abs.getD_append_left (by simpa using hk), getD_set_ne' (Ne.symm hi)]
  · skip
    refine acalls_enterK (cf := cf 19 [0, 1, 4, 5]) foll Tryz.func251 Tryz.ntmps251 (by simp [cf]) ?_
    simp only [Tryz.f251, EnterK_some, zW, zX, zD, builtinA, isLeaf, const1, Nat.reduceAdd, Nat.reduceMul, Nat.reduceSub, Nat.reduceLT, Nat.reduceLeDiff, Nat.reduceEqDiff, Nat.reduceBEq, Nat.reduceBNe, reduceIte, reduceCtorEq, Int.reduceToNat, Int.reduceLT, Int.reduceLE, Int.reduceEq, Int.reduceNe, Int.reduceNeg, ustrA, ti5, ti9, ti22, ti178, ca252, cf, Tryz.results251]
    refine callK_intro (by simp only [zW, zX, zD, builtinA, isLeaf, const1, Nat.reduceAdd, Nat.reduceMul, Nat.reduceSub, Nat.reduceLT, Nat.reduceLeDiff, Nat.reduceEqDiff, Nat.reduceBEq, Nat.reduceBNe, reduceIte, reduceCtorEq, Int.reduceToNat, Int.reduceLT, Int.reduceLE, Int.reduceEq, Int.reduceNe, Int.reduceNeg, ustrA] <;> rfl) (bld_cc A i p _ hA hp) ?_ rfl
    rintro r A' ⟨rfl, rfl⟩
    have g0 : (A.set i (.tc TB [.ptr i 0, .own j])).getD i .dead = .tc TB [.ptr i 0, .own j] := getD_set1 hil
    have hrx : rowIx A i = j := by unfold rowIx; rw [hA]
    have gj : (A.set i (.tc TB [.ptr i 0, .own j])).getD j .dead = .gr (some TU) 1 (byteRows bs) := by rw [getD_set_ne' hij]; exact hAj
    have gj' : ∀ B, (A.set i (.tc TB [.ptr i 0, .own j]) ++ B).getD j .dead = .gr (some TU) 1 (byteRows bs) := fun B => by rw [Abs.getD_append_left (by simpa using hj)]; exact gj
    have g1 : ∀ B, (A.set i (.tc TB [.ptr i 0, .own j]) ++ B).getD i .dead = .tc TB [.ptr i 0, .own j] := fun B => by rw [Abs.getD_append_left (by simpa using hil)]; exact g0
    have g2 : ∀ B, ((A.set i (.tc TB [.ptr i 0, .own j])).set j .dead ++ B).getD i .dead = .tc TB [.ptr i 0, .own j] := fun B => by
      rw [Abs.getD_append_left (by simpa using hil), getD_set_ne' (Ne.symm hij)]; exact g0
    have g3 : ∀ B C, ((A.set i (.tc TB [.ptr i 0, .own j]) ++ B).set j .dead ++ C).getD i .dead = .tc TB [.ptr i 0, .own j] := fun B C => by
      rw [Abs.getD_append_left (by simp; omega), getD_set_ne' (Ne.symm hij)]; exact g1 _
    simp only [zW, zX, zD, builtinA, isLeaf, const1, Nat.reduceAdd, Nat.reduceMul, Nat.reduceSub, Nat.reduceLT, Nat.reduceLeDiff, Nat.reduceEqDiff, Nat.reduceBEq, Nat.reduceBNe, reduceIte, reduceCtorEq, Int.reduceToNat, Int.reduceLT, Int.reduceLE, Int.reduceEq, Int.reduceNe, Int.reduceNeg, ustrA, ti5, ti9, ti22, ti178, ca252, cf, Tryz.results251, g0, g1, g2, g3, gj, gj']
    refine ⟨⟨fun t ht => (Option.some.inj ht).symm, hx, by simp [byteRows]; omega⟩, ?_, ?_⟩
    · exact bld_at (B := []) hn (by simp; omega) (by omega : n ≤ A.length) (by simp) (by omega) (by rw [Abs.getD_append_right (by simp)]; simp [byteRows]) (by simp [hs])
    · exact fr_end (j := 0) (Y := []) (B := []) hil (by omega) (by simp) fun k hk hi hr => by rw [Abs.getD_append_left (by simpa using hk), getD_set_ne' (fun e => hr (by rw [hrx]; exact e.symm)), getD_set_ne' (Ne.symm hi)]

set_option maxRecDepth 100000 in
theorem bld_wb (n : Nat) (A : List Box) (i : Nat) (bs : List UInt8) (c : UInt8) (h : BldAt n A i bs) (hl : bs.length + 1 ≤ 1000000) :
    ACalls Tryz.prog 259 [.ptr i 0, .int .u8 (c.toNat : Nat)] A (fun r A' => BldAt n A' i (bs ++ [c]) ∧ Fr i A A') := by
  obtain ⟨hn, hil, p, v, hA, hp, hv⟩ := h
  have hs : [c] ≠ [] := by simp
  have hx : ∀ x ∈ [[AV.int .u8 (c.toNat : Nat)]], x.length = 1 := by simp
  rcases hv with ⟨rfl, rfl⟩ | ⟨j, rfl, hnj, hj, hij, hAj, hbs⟩
  · skip
    refine acalls_enterK (cf := cf 17 [0, 1, 4]) foll Tryz.func259 Tryz.ntmps259 (by simp [cf]) ?_
    simp only [Tryz.f259, EnterK_some, zW, zX, zD, builtinA, isLeaf, const1, Nat.reduceAdd, Nat.reduceMul, Nat.reduceSub, Nat.reduceLT, Nat.reduceLeDiff, Nat.reduceEqDiff, Nat.reduceBEq, Nat.reduceBNe, reduceIte, reduceCtorEq, Int.reduceToNat, Int.reduceLT, Int.reduceLE, Int.reduceEq, Int.reduceNe, Int.reduceNeg, ustrA, ti5, ti22, ti178, ca252, cf, Tryz.results259]
    refine callK_intro (by simp only [zW, zX, zD, builtinA, isLeaf, const1, Nat.reduceAdd, Nat.reduceMul, Nat.reduceSub, Nat.reduceLT, Nat.reduceLeDiff, Nat.reduceEqDiff, Nat.reduceBEq, Nat.reduceBNe, reduceIte, reduceCtorEq, Int.reduceToNat, Int.reduceLT, Int.reduceLE, Int.reduceEq, Int.reduceNe, Int.reduceNeg, ustrA] <;> rfl) (bld_cc A i p _ hA hp) ?_ rfl
    rintro r A' ⟨rfl, rfl⟩
    have g0 : (A.set i (.tc TB [.ptr i 0, .nils])).getD i .dead = .tc TB [.ptr i 0, .nils] := getD_set1 hil
    have g1 : ∀ B, (A.set i (.tc TB [.ptr i 0, .nils]) ++ B).getD i .dead = .tc TB [.ptr i 0, .nils] := fun B => by rw [Abs.getD_append_left (by simpa using hil)]; exact g0
    have g3 : ∀ B C, ((A.set i (.tc TB [.ptr i 0, .nils]) ++ B) ++ C).getD i .dead = .tc TB [.ptr i 0, .nils] := fun B C => by rw [List.append_assoc]; exact g1 _
    simp only [zW, zX, zD, builtinA, isLeaf, const1, Nat.reduceAdd, Nat.reduceMul, Nat.reduceSub, Nat.reduceLT, Nat.reduceLeDiff, Nat.reduceEqDiff, Nat.reduceBEq, Nat.reduceBNe, reduceIte, reduceCtorEq, Int.reduceToNat, Int.reduceLT, Int.reduceLE, Int.reduceEq, Int.reduceNe, Int.reduceNeg, ustrA, ti5, ti22, ti178, ca252, cf, Tryz.results259, g0, g1, g3]
    refine ⟨by simp, hx, ?_, ?_⟩
    · exact bld_at (B := []) hn (by simp; omega) (by omega : n ≤ A.length + 1) (by simp) (by omega) (by rw [Abs.getD_append_right (by simp)]; simp [byteRows]) hs
    · exact fr_end (j := 0) (Y := []) (B := []) hil (by omega) (by simp) fun k hk hi hr => by rw [Abs.getD_append_left (by simpa using hk), getD_set_ne' (Ne.symm hi)]
  · skip
    refine acalls_enterK (cf := cf 17 [0, 1, 4]) foll Tryz.func259 Tryz.ntmps259 (by simp [cf]) ?_
    simp only [Tryz.f259, EnterK_some, zW, zX, zD, builtinA, isLeaf, const1, Nat.reduceAdd, Nat.reduceMul, Nat.reduceSub, Nat.reduceLT, Nat.reduceLeDiff, Nat.reduceEqDiff, Nat.reduceBEq, Nat.reduceBNe, reduceIte, reduceCtorEq, Int.reduceToNat, Int.reduceLT, Int.reduceLE, Int.reduceEq, Int.reduceNe, Int.reduceNeg, ustrA, ti5, ti22, ti178, ca252, cf, Tryz.results259]
    refine callK_intro (by simp only [zW, zX, zD, builtinA, isLeaf, const1, Nat.reduceAdd, Nat.reduceMul, Nat.reduceSub, Nat.reduceLT, Nat.reduceLeDiff, Nat.reduceEqDiff, Nat.reduceBEq, Nat.reduceBNe, reduceIte, reduceCtorEq, Int.reduceToNat, Int.reduceLT, Int.reduceLE, Int.reduceEq, Int.reduceNe, Int.reduceNeg, ustrA] <;> rfl) (bld_cc A i p _ hA hp) ?_ rfl
    rintro r A' ⟨rfl, rfl⟩
    have g0 : (A.set i (.tc TB [.ptr i 0, .own j])).getD i .dead = .tc TB [.ptr i 0, .own j] := getD_set1 hil
    have hrx : rowIx A i = j := by unfold rowIx; rw [hA]
    have gj : (A.set i (.tc TB [.ptr i 0, .own j])).getD j .dead = .gr (some TU) 1 (byteRows bs) := by rw [getD_set_ne' hij]; exact hAj
    have gj' : ∀ B, (A.set i (.tc TB [.ptr i 0, .own j]) ++ B).getD j .dead = .gr (some TU) 1 (byteRows bs) := fun B => by rw [Abs.getD_append_left (by simpa using hj)]; exact gj
    have g1 : ∀ B, (A.set i (.tc TB [.ptr i 0, .own j]) ++ B).getD i .dead = .tc TB [.ptr i 0, .own j] := fun B => by rw [Abs.getD_append_left (by simpa using hil)]; exact g0
    have g2 : ∀ B, ((A.set i (.tc TB [.ptr i 0, .own j])).set j .dead ++ B).getD i .dead = .tc TB [.ptr i 0, .own j] := fun B => by
      rw [Abs.getD_append_left (by simpa using hil), getD_set_ne' (Ne.symm hij)]; exact g0
    have g3 : ∀ B C, ((A.set i (.tc TB [.ptr i 0, .own j]) ++ B).set j .dead ++ C).getD i .dead = .tc TB [.ptr i 0, .own j] := fun B C => by
      rw [Abs.getD_append_left (by simp; omega), getD_set_ne' (Ne.symm hij)]; exact g1 _
    simp only [zW, zX, zD, builtinA, isLeaf, const1, Nat.reduceAdd, Nat.reduceMul, Nat.reduceSub, Nat.reduceLT, Nat.reduceLeDiff, Nat.reduceEqDiff, Nat.reduceBEq, Nat.reduceBNe, reduceIte, reduceCtorEq, Int.reduceToNat, Int.reduceLT, Int.reduceLE, Int.reduceEq, Int.reduceNe, Int.reduceNeg, ustrA, ti5, ti22, ti178, ca252, cf, Tryz.results259, g0, g1, g2, g3, gj, gj']
    refine ⟨by simp, ⟨fun t ht => (Option.some.inj ht).symm, hx, by simp [byteRows]; omega⟩, ?_, ?_⟩
    · exact bld_at (B := []) hn (by simp; omega) (by omega : n ≤ A.length + 1) (by simp) (by omega) (by rw [Abs.getD_append_right (by simp)]; simp [byteRows]) (by simp)
    · exact fr_end (j := 0) (Y := []) (B := []) hil (by omega) (by simp; omega) fun k hk hi hr => by rw [Abs.getD_append_left (by simp; omega), getD_set_ne' (fun e => hr (by rw [hrx]; exact e.symm)), Abs.getD_append_left (by simpa using hk), getD_set_ne' (Ne.symm hi)]

set_option maxRecDepth 100000 in
theorem bld_str (n : Nat) (A : List Box) (i : Nat) (bs : List UInt8) (h : BldAt n A i bs) (hl : bs.length ≤ 1000000) :
    ACalls Tryz.prog 125 [.ptr i 0] A (fun r A' => r = .str bs ∧ Goes n A A') := by
  obtain ⟨hn, hil, p, v, hA, hp, hv⟩ := h
  rcases hv with ⟨rfl, rfl⟩ | ⟨j, rfl, hnj, hj, hij, hAj, hbs⟩
  · skip
    refine acalls_enterK (cf := cf 14 [0, 2]) foll Tryz.func125 Tryz.ntmps125 (by simp [cf]) ?_
    simp only [Tryz.f125, EnterK_some, zW, zX, zD, builtinA, isLeaf, const1, Nat.reduceAdd, Nat.reduceMul, Nat.reduceSub, Nat.reduceLT, Nat.reduceLeDiff, Nat.reduceEqDiff, Nat.reduceBEq, Nat.reduceBNe, reduceIte, reduceCtorEq, Int.reduceToNat, Int.reduceLT, Int.reduceLE, Int.reduceEq, Int.reduceNe, Int.reduceNeg, ustrA, ti3, ti5, ti22, ti178, ti250, cf, Tryz.results125]
    refine .inr (drawE_intro [(false, 0, 0), (false, 0, 0), (false, 0, 0), (false, 0, 0), (false, 0, 0), (false, 0, 0), (false, 0, 0), (false, 0, 0), (false, 0, 0), (false, 0, 0), (true, 0, 0), (false, 1, 1)] [A, A] 1 rfl (by kernel_rfl) (by kernel_rfl) (by kernel_rfl) (by kernel_rfl) (by kernel_rfl) (by kernel_rfl) ?_)
    simp only [zW, zX, zD, builtinA, isLeaf, const1, Nat.reduceAdd, Nat.reduceMul, Nat.reduceSub, Nat.reduceLT, Nat.reduceLeDiff, Nat.reduceEqDiff, Nat.reduceBEq, Nat.reduceBNe, reduceIte, reduceCtorEq, Int.reduceToNat, Int.reduceLT, Int.reduceLE, Int.reduceEq, Int.reduceNe, Int.reduceNeg, ustrA, ti3, ti5, ti22, ti178, ti250, cf, Tryz.results125, hA]
    exact ⟨rfl, Goes.refl n A⟩
  · skip
    refine acalls_enterK (cf := cf 14 [0, 2]) foll Tryz.func125 Tryz.ntmps125 (by simp [cf]) ?_
    simp only [Tryz.f125, EnterK_some, zW, zX, zD, builtinA, isLeaf, const1, Nat.reduceAdd, Nat.reduceMul, Nat.reduceSub, Nat.reduceLT, Nat.reduceLeDiff, Nat.reduceEqDiff, Nat.reduceBEq, Nat.reduceBNe, reduceIte, reduceCtorEq, Int.reduceToNat, Int.reduceLT, Int.reduceLE, Int.reduceEq, Int.reduceNe, Int.reduceNeg, ustrA, ti3, ti5, ti22, ti178, ti250, cf, Tryz.results125]
    refine .inr (drawE_intro [(false, 0, 0), (false, 0, 0), (false, 0, 0), (false, 0, 0), (false, 0, 0), (false, 0, 0), (false, 0, 0), (false, 0, 0), (false, 0, 0), (false, 0, 0), (true, 0, 0), (false, 1, 1)] [A, A.set j .dead] 1 rfl (by kernel_rfl) (by kernel_rfl) (by kernel_rfl) (by kernel_rfl) (by kernel_rfl) (by kernel_rfl) ?_)
    simp only [zW, zX, zD, builtinA, isLeaf, const1, Nat.reduceAdd, Nat.reduceMul, Nat.reduceSub, Nat.reduceLT, Nat.reduceLeDiff, Nat.reduceEqDiff, Nat.reduceBEq, Nat.reduceBNe, reduceIte, reduceCtorEq, Int.reduceToNat, Int.reduceLT, Int.reduceLE, Int.reduceEq, Int.reduceNe, Int.reduceNeg, ustrA, ti3, ti5, ti22, ti178, ti250, cf, Tryz.results125, hA, hAj]
    have h1 : 0 < (byteRows bs).length := by simp [byteRows]; exact List.length_pos_iff.2 hbs
    have h2 : List.map Abs.byteOf (byteRows bs) = bs := by
      simp only [byteRows, List.map_map]
      conv => rhs; rw [← List.map_id bs]
      apply List.map_congr_left
      intro b _
      simp [Abs.byteOf]
    refine ⟨h1, ⟨h1, fun r hr => ?_, by simp [byteRows]; omega⟩, by rw [h2], (Goes.refl n A).set hnj⟩
    obtain ⟨b, _, rfl⟩ := List.mem_map.1 hr
    have := b.toNat_lt
    first
      | (simp; done)
      | (simp; omega)
      | (simp [Abs.isOctet]; done)
      | (simp [Abs.isOctet]; omega)
end Go.Proofs.YtpoknljchikklaaGreat

/- The texts of types. -/
set_option linter.unusedVariables false
set_option linter.unusedSimpArgs false
namespace Go.Proofs.YtpoknljchikklaaGreat
open Go.Abs

def path (m n : List UInt8) : List UInt8 := if m = [] then n else m ++ [46] ++ n
def txt : VT → List UInt8
  | .num => [73]
  | .nm m n => path m n
  | .fn a b => [40] ++ txt a ++ [62] ++ txt b ++ [41]

theorem nm_len {m n : List UInt8} (h : nmB m n = true) : n.length = 1 ∧ m.length ≤ 1 := by
  simp only [nmB, Bool.and_eq_true, Bool.or_eq_true, decide_eq_true_eq] at h
  obtain ⟨h1, h2⟩ := h
  have h3 : n.length = 1 := by simp [localB] at h2; exact h2.1
  rcases h1 with h1 | h1
  · exact ⟨h3, by simp [h1]⟩
  · simp [moduleB] at h1; exact ⟨h3, by omega⟩
theorem txt_len : ∀ v, okV v = true → (txt v).length ≤ 4 * cnt v
  | .num, _ => by simp [txt, cnt]
  | .nm m n, h => by
    have := nm_len h
    simp only [txt, path, cnt]
    split <;> simp <;> omega
  | .fn a b, h => by
    simp [okV] at h
    have ha := txt_len a h.1
    have hb := txt_len b h.2
    simp [txt, cnt]
    omega

theorem toTy_inj : ∀ {v v' : VT}, toTy v = toTy v' → v = v'
  | .num, .num, _ => rfl
  | .num, .nm _ _, h => by simp [toTy] at h
  | .num, .fn _ _, h => by simp [toTy] at h
  | .nm _ _, .num, h => by simp [toTy] at h
  | .nm _ _, .fn _ _, h => by simp [toTy] at h
  | .fn _ _, .num, h => by simp [toTy] at h
  | .fn _ _, .nm _ _, h => by simp [toTy] at h
  | .nm m n, .nm m' n', h => by simp [toTy] at h; rw [h.1, h.2]
  | .fn a b, .fn a' b', h => by
    simp [toTy] at h
    rw [toTy_inj h.1, toTy_inj h.2]
end Go.Proofs.YtpoknljchikklaaGreat

/- Texts of valid types: what the program's and the model's functions write. -/
set_option linter.unusedVariables false
set_option linter.unusedSimpArgs false
namespace Go.Proofs.YtpoknljchikklaaGreat
open Go.Abs

theorem BldAt.row_lt {n i : Nat} {A : List Box} {bs : List UInt8} (h : BldAt n A i bs) : rowIx A i < A.length := by
  obtain ⟨hn, hil, p, v, hA, hp, hv⟩ := h
  unfold rowIx
  rw [hA]
  rcases hv with ⟨rfl, _⟩ | ⟨j, rfl, _, hj, _⟩
  · exact hil
  · exact hj
theorem rowIx_app {i : Nat} {A B : List Box} (hi : i < A.length) : rowIx (A ++ B) i = rowIx A i := by
  unfold rowIx; rw [Abs.getD_append_left hi]
def WriteM (v : VT) : Prop := ∀ n A i bs, BldAt n A i bs → bs.length + (txt v).length ≤ 1000000 → ACalls Tryz.prog ((pickF 354 361 258) v) [vX v, .ptr i 0] A (fun r A' => BldAt n A' i (bs ++ txt v) ∧ Fr i A A')

theorem goes_app {n : Nat} {A : List Box} {i : Nat} {bs : List UInt8} (h : BldAt n A i bs) (B : List Box) : BldAt n (A ++ B) i bs ∧ Fr i A (A ++ B) := by
  obtain ⟨hn, hil, p, v, hA, hp, hv⟩ := h
  refine ⟨⟨hn, by simp; omega, p, v, by rw [Abs.getD_append_left hil]; exact hA, hp, ?_⟩, Fr.app hil B⟩
  rcases hv with h | ⟨j, h1, h2, h3, h4, h5, h6⟩
  · exact .inl h
  · exact .inr ⟨j, h1, h2, by simp; omega, h4, by rw [Abs.getD_append_left h3]; exact h5, h6⟩

set_option maxRecDepth 100000 in
theorem num_write : WriteM .num := fun n A i bs h hl => by
  show ACalls Tryz.prog 354 _ _ _
  rw [vX]
  obtain ⟨h1, g1⟩ := goes_app h [.cells []]
  simp only [txt, List.length_cons, List.length_nil] at hl ⊢
  refine acalls_enterK (cf := cf 6 [0, 1]) foll Tryz.func354 Tryz.ntmps354 (by simp [cf]) ?_
  simp only [Tryz.f354, EnterK_some, zW, zX, zD, builtinA, isLeaf, const1, ustrA, simprocAttr, ti315, ca259, cf, Tryz.results354]
  refine callK_intro (by simp only [zW, zX, zD, builtinA, isLeaf, const1, ustrA, simprocAttr] <;> rfl) (bld_wb n _ i bs 73 h1 (by omega)) ?_ rfl
  rintro r A' ⟨h2, g2⟩
  simp only [zW, zX, zD, builtinA, isLeaf, const1, ustrA, simprocAttr, ti315, ca259, cf, Tryz.results354]
  exact ⟨h2, g1.trans g2⟩

set_option maxRecDepth 100000 in
theorem name_write (m k : List UInt8) (hk : k ≠ []) : WriteM (.nm m k) := fun n A i bs h hl => by
  show ACalls Tryz.prog 258 _ _ _
  rw [vX]
  obtain ⟨h1, g1⟩ := goes_app h [.cells [.str m, .str k]]
  have hil : i < A.length := h.2.1
  simp only [txt] at hl ⊢
  by_cases hm : m = []
  · refine acalls_enterK (cf := cf 17 [0, 1, 2, 6]) foll Tryz.func258 Tryz.ntmps258 (by simp [cf]) ?_
    simp only [Tryz.f258, EnterK_some, zW, zX, zD, builtinA, isLeaf, const1, ustrA, simprocAttr, ti9, ti226, ca251, ca259, cf, Tryz.results258]
    simp only [zW, zX, zD, builtinA, isLeaf, const1, ustrA, simprocAttr, ti9, ti226, ca251, ca259, cf, Tryz.results258, decide_eq_true hm, Bool.not_true]
    simp only [path, if_pos hm] at hl ⊢
    refine callK_intro (by simp only [zW, zX, zD, builtinA, isLeaf, const1, ustrA, simprocAttr] <;> rfl) (bld_ws n _ i bs k h1 hk (by omega)) ?_ rfl
    rintro r A' ⟨h2, g2⟩
    simp only [zW, zX, zD, builtinA, isLeaf, const1, ustrA, simprocAttr, ti9, ti226, ca251, ca259, cf, Tryz.results258]
    exact ⟨h2, g1.trans g2⟩
  · simp only [path, if_neg hm, List.length_append, List.length_cons, List.length_nil] at hl ⊢
    refine acalls_enterK (cf := cf 17 [0, 1, 2, 6]) foll Tryz.func258 Tryz.ntmps258 (by simp [cf]) ?_
    simp only [Tryz.f258, EnterK_some, zW, zX, zD, builtinA, isLeaf, const1, ustrA, simprocAttr, ti9, ti226, ca251, ca259, cf, Tryz.results258]
    simp only [zW, zX, zD, builtinA, isLeaf, const1, ustrA, simprocAttr, ti9, ti226, ca251, ca259, cf, Tryz.results258, decide_eq_false hm, Bool.not_false]
    refine callK_intro (by simp only [zW, zX, zD, builtinA, isLeaf, const1, ustrA, simprocAttr] <;> rfl) (bld_ws n _ i bs m h1 hm (by omega)) ?_ rfl
    rintro r A1 ⟨h2, g2⟩
    simp only [zW, zX, zD, builtinA, isLeaf, const1, ustrA, simprocAttr, ti9, ti226, ca251, ca259, cf, Tryz.results258]
    refine callK_intro (by simp only [zW, zX, zD, builtinA, isLeaf, const1, ustrA, simprocAttr] <;> rfl) (bld_wb n _ i (bs ++ m) 46 h2 (by simp; omega)) ?_ rfl
    rintro r A2 ⟨h3, g3⟩
    have hb : A2.getD A.length .dead = .cells [.str m, .str k] := by
      rw [(g2.trans g3).2.2 A.length (by simp) (by omega) (by have := h.row_lt; rw [rowIx_app hil]; omega), Abs.getD_append_right (by omega)]
      simp
    simp only [zW, zX, zD, builtinA, isLeaf, const1, ustrA, simprocAttr, ti9, ti226, ca251, ca259, cf, Tryz.results258, hb]
    refine callK_intro (by simp only [zW, zX, zD, builtinA, isLeaf, const1, ustrA, simprocAttr] <;> rfl) (bld_ws n _ i (bs ++ m ++ [46]) k h3 hk (by simp; omega)) ?_ rfl
    rintro r A3 ⟨h4, g4⟩
    simp only [zW, zX, zD, builtinA, isLeaf, const1, ustrA, simprocAttr, ti9, ti226, ca251, ca259, cf, Tryz.results258]
    exact ⟨by simpa using h4, g1.trans (g2.trans (g3.trans g4))⟩

set_option maxRecDepth 100000 in
theorem fun_write (a b : VT) (ha : WriteM a) (hb : WriteM b) : WriteM (.fn a b) := fun n A i bs h hl => by
  show ACalls Tryz.prog 361 _ _ _
  rw [vX]
  obtain ⟨h1, g1⟩ := goes_app h [.cells [.iface (vT a) (vX a), .iface (vT b) (vX b)]]
  have hil : i < A.length := h.2.1
  have hrl := h.row_lt
  simp only [txt, List.length_append, List.length_cons, List.length_nil] at hl ⊢
  have look : ∀ A', Fr i (A ++ [Box.cells [.iface (vT a) (vX a), .iface (vT b) (vX b)]]) A' → A'.getD A.length .dead = .cells [.iface (vT a) (vX a), .iface (vT b) (vX b)] := fun A' g => by
    rw [g.2.2 A.length (by simp) (by omega) (by rw [rowIx_app hil]; omega), Abs.getD_append_right (by omega)]
    simp
  refine acalls_enterK (cf := cf 18 [0, 1, 2]) foll Tryz.func361 Tryz.ntmps361 (by simp [cf]) ?_
  simp only [Tryz.f361, EnterK_some, zW, zX, zD, builtinA, isLeaf, const1, ustrA, simprocAttr, ti198, ti331, ca259, cf, Tryz.results361]
  refine callK_intro (by simp only [zW, zX, zD, builtinA, isLeaf, const1, ustrA, simprocAttr] <;> rfl) (bld_wb n _ i bs 40 h1 (by omega)) ?_ rfl
  rintro r A1 ⟨h2, g2⟩
  have b1 := look A1 g2
  simp only [zW, zX, zD, builtinA, isLeaf, const1, ustrA, simprocAttr, ti198, ti331, ca259, cf, Tryz.results361, b1]
  refine wpO_invoke _ _ _ _ _ _ _ _ _ _ _ _ _ _ _ _ ?_
  simp only [zW, zX, zD, builtinA, isLeaf, const1, ustrA, simprocAttr, ti198, ti331, ca259, cf, Tryz.results361]
  refine meth_invK (met3 (by kernel_rfl) (by kernel_rfl) (by kernel_rfl) (by kernel_rfl) (by kernel_rfl) (by kernel_rfl)) (ha n _ i (bs ++ [40]) h2 (by simp; omega)) rfl (fun _ => rfl) ?_
  rintro r A2 ⟨h3, g3⟩
  simp only [zW, zX, zD, builtinA, isLeaf, const1, ustrA, simprocAttr, ti198, ti331, ca259, cf, Tryz.results361]
  refine callK_intro (by simp only [zW, zX, zD, builtinA, isLeaf, const1, ustrA, simprocAttr] <;> rfl) (bld_wb n _ i (bs ++ [40] ++ txt a) 62 h3 (by simp; omega)) ?_ rfl
  rintro r A3 ⟨h4, g4⟩
  have b3 := look A3 (g2.trans (g3.trans g4))
  simp only [zW, zX, zD, builtinA, isLeaf, const1, ustrA, simprocAttr, ti198, ti331, ca259, cf, Tryz.results361, b3]
  refine wpO_invoke _ _ _ _ _ _ _ _ _ _ _ _ _ _ _ _ ?_
  simp only [zW, zX, zD, builtinA, isLeaf, const1, ustrA, simprocAttr, ti198, ti331, ca259, cf, Tryz.results361]
  refine meth_invK (met3 (by kernel_rfl) (by kernel_rfl) (by kernel_rfl) (by kernel_rfl) (by kernel_rfl) (by kernel_rfl)) (hb n _ i (bs ++ [40] ++ txt a ++ [62]) h4 (by simp; omega)) rfl (fun _ => rfl) ?_
  rintro r A4 ⟨h5, g5⟩
  simp only [zW, zX, zD, builtinA, isLeaf, const1, ustrA, simprocAttr, ti198, ti331, ca259, cf, Tryz.results361]
  refine callK_intro (by simp only [zW, zX, zD, builtinA, isLeaf, const1, ustrA, simprocAttr] <;> rfl) (bld_wb n _ i (bs ++ [40] ++ txt a ++ [62] ++ txt b) 41 h5 (by simp; omega)) ?_ rfl
  rintro r A5 ⟨h6, g6⟩
  simp only [zW, zX, zD, builtinA, isLeaf, const1, ustrA, simprocAttr, ti198, ti331, ca259, cf, Tryz.results361]
  exact ⟨by simpa using h6, g1.trans (g2.trans (g3.trans (g4.trans (g5.trans g6))))⟩

theorem writeM : ∀ v, okV v = true → WriteM v
  | .num, _ => num_write
  | .nm m n, h => name_write m n (by have := nm_len h; intro e; simp [e] at this)
  | .fn a b, h => by
    simp [okV] at h
    exact fun_write a b (writeM a h.1) (writeM b h.2)

end Go.Proofs.YtpoknljchikklaaGreat

/- Texts of signatures: the model's and the program's. -/
set_option linter.unusedVariables false
set_option linter.unusedSimpArgs false
namespace Go.Proofs.YtpoknljchikklaaGreat
open Go.Abs

def txtI : VI → List UInt8
  | .ab n => n
  | .al n v => n ++ [61] ++ txt v
  | .va n v => n ++ [58] ++ txt v
def bodyN (ys : List VI) : Nat → List UInt8
  | 0 => []
  | i + 1 => bodyN ys i ++ (if i = 0 then [] else [59]) ++ txtI (ys.getD i vi0)
def txtS (ys : List VI) : List UInt8 := [123] ++ bodyN ys ys.length ++ [125]
def nameI : VI → List UInt8
  | .ab n => n
  | .al n _ => n
  | .va n _ => n
def okI : VI → Prop
  | .ab _ => True
  | .al _ v => VOk v
  | .va _ v => VOk v
theorem itemOf_ok {x : SigI} {y : VI} (h : ItemOf x y) : nameI y = x.name ∧ okI y := by
  cases y with
  | ab n => exact ⟨h.1.symm, trivial⟩
  | al n v => exact ⟨h.1.symm, h.2.2.2⟩
  | va n v => exact ⟨h.1.symm, h.2.2.2⟩
theorem local_one {n : List UInt8} (h : localB n = true) : n.length = 1 := by simp [localB] at h; exact h.1
theorem txtI_len {y : VI} (h : okI y) (hn : (nameI y).length = 1) : (txtI y).length ≤ 300 := by
  cases y with
  | ab n => simp only [txtI, nameI] at *; omega
  | al n v => have h1 := txt_len v h.ok; have h2 := h.cnt; simp only [txtI, nameI, List.length_append, List.length_cons, List.length_nil] at *; omega
  | va n v => have h1 := txt_len v h.ok; have h2 := h.cnt; simp only [txtI, nameI, List.length_append, List.length_cons, List.length_nil] at *; omega
theorem bodyN_len {ys : List VI} (h : ∀ k, k < ys.length → (txtI (ys.getD k vi0)).length ≤ 300) : ∀ i, i ≤ ys.length → (bodyN ys i).length ≤ 301 * i
  | 0, _ => by simp [bodyN]
  | i + 1, hi => by
    have h1 := bodyN_len h i (by omega)
    have h2 := h i (by omega)
    have h3 : (if i = 0 then ([] : List UInt8) else [59]).length ≤ 1 := by split <;> simp
    rw [bodyN, List.length_append, List.length_append]
    omega

set_option maxRecDepth 100000 in
theorem ab_write (k : List UInt8) (hk : k ≠ []) (n : Nat) (A : List Box) (i : Nat) (bs : List UInt8) (h : BldAt n A i bs) (hl : bs.length + k.length ≤ 1000000) : ACalls Tryz.prog 300 [viX (.ab k), .ptr i 0] A (fun r A' => BldAt n A' i (bs ++ txtI (.ab k)) ∧ Fr i A A') := by
  rw [viX]
  obtain ⟨h1, g1⟩ := goes_app h [.cells [.str k]]
  simp only [txtI]
  refine acalls_enterK (cf := cf 8 [0, 1, 2]) foll Tryz.func300 Tryz.ntmps300 (by simp [cf]) ?_
  simp only [Tryz.f300, EnterK_some, zW, zX, zD, builtinA, isLeaf, const1, ustrA, simprocAttr, ti9, ti243, ca251, cf, Tryz.results300]
  refine callK_intro (by simp only [zW, zX, zD, builtinA, isLeaf, const1, ustrA, simprocAttr] <;> rfl) (bld_ws n _ i bs k h1 hk (by omega)) ?_ rfl
  rintro r A' ⟨h2, g2⟩
  simp only [zW, zX, zD, builtinA, isLeaf, const1, ustrA, simprocAttr, ti9, ti243, ca251, cf, Tryz.results300]
  exact ⟨h2, g1.trans g2⟩
set_option maxRecDepth 100000 in
theorem al_write (k : List UInt8) (hk : k ≠ []) (v : VT) (hv : okV v = true) (n : Nat) (A : List Box) (i : Nat) (bs : List UInt8) (h : BldAt n A i bs) (hl : bs.length + (k.length + 1 + (txt v).length) ≤ 1000000) : ACalls Tryz.prog 306 [viX (.al k v), .ptr i 0] A (fun r A' => BldAt n A' i (bs ++ txtI (.al k v)) ∧ Fr i A A') := by
  rw [viX]
  obtain ⟨h1, g1⟩ := goes_app h [.cells [.str k, .iface (vT v) (vX v)]]
  have hil : i < A.length := h.2.1
  have hrl := h.row_lt
  have look : ∀ A', Fr i (A ++ [Box.cells [.str k, .iface (vT v) (vX v)]]) A' → A'.getD A.length .dead = .cells [.str k, .iface (vT v) (vX v)] := fun A' g => by
    rw [g.2.2 A.length (by simp) (by omega) (by rw [rowIx_app hil]; omega), Abs.getD_append_right (by omega)]
    simp
  simp only [txtI]
  refine acalls_enterK (cf := cf 14 [0, 1, 2]) foll Tryz.func306 Tryz.ntmps306 (by simp [cf]) ?_
  simp only [Tryz.f306, EnterK_some, zW, zX, zD, builtinA, isLeaf, const1, ustrA, simprocAttr, ti9, ti198, ti246, ca251, ca259, cf, Tryz.results306]
  refine callK_intro (by simp only [zW, zX, zD, builtinA, isLeaf, const1, ustrA, simprocAttr] <;> rfl) (bld_ws n _ i bs k h1 hk (by omega)) ?_ rfl
  rintro r A1 ⟨h2, g2⟩
  simp only [zW, zX, zD, builtinA, isLeaf, const1, ustrA, simprocAttr, ti9, ti198, ti246, ca251, ca259, cf, Tryz.results306]
  refine callK_intro (by simp only [zW, zX, zD, builtinA, isLeaf, const1, ustrA, simprocAttr] <;> rfl) (bld_wb n _ i (bs ++ k) 61 h2 (by simp; omega)) ?_ rfl
  rintro r A2 ⟨h3, g3⟩
  have b1 := look A2 (g2.trans g3)
  simp only [zW, zX, zD, builtinA, isLeaf, const1, ustrA, simprocAttr, ti9, ti198, ti246, ca251, ca259, cf, Tryz.results306, b1]
  refine wpO_invoke _ _ _ _ _ _ _ _ _ _ _ _ _ _ _ _ ?_
  simp only [zW, zX, zD, builtinA, isLeaf, const1, ustrA, simprocAttr, ti9, ti198, ti246, ca251, ca259, cf, Tryz.results306]
  refine meth_invK (met3 (by kernel_rfl) (by kernel_rfl) (by kernel_rfl) (by kernel_rfl) (by kernel_rfl) (by kernel_rfl)) (writeM v hv n _ i (bs ++ k ++ [61]) h3 (by simp; omega)) rfl (fun _ => rfl) ?_
  rintro r A3 ⟨h4, g4⟩
  simp only [zW, zX, zD, builtinA, isLeaf, const1, ustrA, simprocAttr, ti9, ti198, ti246, ca251, ca259, cf, Tryz.results306]
  exact ⟨by simpa using h4, g1.trans (g2.trans (g3.trans g4))⟩
set_option maxRecDepth 100000 in
theorem va_write (k : List UInt8) (hk : k ≠ []) (v : VT) (hv : okV v = true) (n : Nat) (A : List Box) (i : Nat) (bs : List UInt8) (h : BldAt n A i bs) (hl : bs.length + (k.length + 1 + (txt v).length) ≤ 1000000) : ACalls Tryz.prog 312 [viX (.va k v), .ptr i 0] A (fun r A' => BldAt n A' i (bs ++ txtI (.va k v)) ∧ Fr i A A') := by
  rw [viX]
  obtain ⟨h1, g1⟩ := goes_app h [.cells [.str k, .iface (vT v) (vX v)]]
  have hil : i < A.length := h.2.1
  have hrl := h.row_lt
  have look : ∀ A', Fr i (A ++ [Box.cells [.str k, .iface (vT v) (vX v)]]) A' → A'.getD A.length .dead = .cells [.str k, .iface (vT v) (vX v)] := fun A' g => by
    rw [g.2.2 A.length (by simp) (by omega) (by rw [rowIx_app hil]; omega), Abs.getD_append_right (by omega)]
    simp
  simp only [txtI]
  refine acalls_enterK (cf := cf 14 [0, 1, 2]) foll Tryz.func312 Tryz.ntmps312 (by simp [cf]) ?_
  simp only [Tryz.f312, EnterK_some, zW, zX, zD, builtinA, isLeaf, const1, ustrA, simprocAttr, ti9, ti198, ti247, ca251, ca259, cf, Tryz.results312]
  refine callK_intro (by simp only [zW, zX, zD, builtinA, isLeaf, const1, ustrA, simprocAttr] <;> rfl) (bld_ws n _ i bs k h1 hk (by omega)) ?_ rfl
  rintro r A1 ⟨h2, g2⟩
  simp only [zW, zX, zD, builtinA, isLeaf, const1, ustrA, simprocAttr, ti9, ti198, ti247, ca251, ca259, cf, Tryz.results312]
  refine callK_intro (by simp only [zW, zX, zD, builtinA, isLeaf, const1, ustrA, simprocAttr] <;> rfl) (bld_wb n _ i (bs ++ k) 58 h2 (by simp; omega)) ?_ rfl
  rintro r A2 ⟨h3, g3⟩
  have b1 := look A2 (g2.trans g3)
  simp only [zW, zX, zD, builtinA, isLeaf, const1, ustrA, simprocAttr, ti9, ti198, ti247, ca251, ca259, cf, Tryz.results312, b1]
  refine wpO_invoke _ _ _ _ _ _ _ _ _ _ _ _ _ _ _ _ ?_
  simp only [zW, zX, zD, builtinA, isLeaf, const1, ustrA, simprocAttr, ti9, ti198, ti247, ca251, ca259, cf, Tryz.results312]
  refine meth_invK (met3 (by kernel_rfl) (by kernel_rfl) (by kernel_rfl) (by kernel_rfl) (by kernel_rfl) (by kernel_rfl)) (writeM v hv n _ i (bs ++ k ++ [58]) h3 (by simp; omega)) rfl (fun _ => rfl) ?_
  rintro r A3 ⟨h4, g4⟩
  simp only [zW, zX, zD, builtinA, isLeaf, const1, ustrA, simprocAttr, ti9, ti198, ti247, ca251, ca259, cf, Tryz.results312]
  exact ⟨by simpa using h4, g1.trans (g2.trans (g3.trans g4))⟩
theorem writeI (y : VI) (ho : okI y) (hn : (nameI y).length = 1) (n : Nat) (A : List Box) (i : Nat) (bs : List UInt8) (h : BldAt n A i bs) (hl : bs.length + (txtI y).length ≤ 1000000) : ACalls Tryz.prog ((pickI 300 306 312) y) [viX y, .ptr i 0] A (fun r A' => BldAt n A' i (bs ++ txtI y) ∧ Fr i A A') := by
  cases y with
  | ab k => exact ab_write k (by rintro rfl; simp [nameI] at hn) n A i bs h (by simpa [txtI] using hl)
  | al k v => exact al_write k (by rintro rfl; simp [nameI] at hn) v ho.ok n A i bs h (by simp [txtI] at hl; omega)
  | va k v => exact va_write k (by rintro rfl; simp [nameI] at hn) v ho.ok n A i bs h (by simp [txtI] at hl; omega)

/-! ### the whole -/
set_option maxRecDepth 100000 in
theorem impl_writeList (ys : List VI) (h8 : ys.length ≤ 8) (ho : ∀ k, k < ys.length → okI (ys.getD k vi0) ∧ (nameI (ys.getD k vi0)).length = 1) (n : Nat) (A : List Box) (j : Nat) (h : BldAt n A j []) : ACalls Tryz.prog 250 [.ptr j 0, .str [123], .str [59], .str [125], .slice (vRows ys)] A (fun r A' => BldAt n A' j (txtS ys) ∧ Fr j A A') := by
  have hbl := bodyN_len (ys := ys) (fun k hk => txtI_len (ho k hk).1 (ho k hk).2)
  refine acalls_enterK (cf := cf 34 [0, 1, 2, 3, 4, 10, 11, 15, 16, 17, 18, 23]) foll Tryz.func250 Tryz.ntmps250 (by simp [cf]) ?_
  simp only [Tryz.f250, EnterK_some, zW, zX, zD, builtinA, isLeaf, const1, ustrA, simprocAttr, ti3, ti90, ti171, ca251, cf, Tryz.results250]
  refine callK_intro (by simp only [zW, zX, zD, builtinA, isLeaf, const1, ustrA, simprocAttr] <;> rfl) (bld_ws n _ j [] [123] h (by simp) (by simp)) ?_ rfl
  rintro r A1 ⟨h1, g1⟩
  simp only [zW, zX, zD, builtinA, isLeaf, const1, ustrA, simprocAttr, ti3, ti90, ti171, ca251, cf, Tryz.results250, vRows_length]
  refine aloop_intro [0, 2, 3, 15, 16, 17] (fun e A' => ∃ i, i ≤ ys.length ∧ e = [(0, .ptr j 0), (2, .str [59]), (3, .str [125]), (15, .slice (vRows ys)), (16, .int .i64 ys.length), (17, .int .i64 (i : Nat))] ∧ BldAt n A' j ([] ++ [123] ++ bodyN ys i) ∧ Fr j A A') (fun e _ => ys.length - (intOf (Abs.look 17 e)).toNat) ?_ ?_
  · simp only [zW, zX, zD, builtinA, isLeaf, const1, ustrA, simprocAttr, ti3, ti90, ti171, ca251, cf, Tryz.results250]
    exact ⟨0, by omega, rfl, by simpa [bodyN] using h1, g1⟩
  · rintro e A' ⟨i, hi, rfl, hbl1, hfr⟩
    by_cases hlt : i < ys.length
    · have d1 : decide ((i : Int) < (ys.length : Int)) = true := by simp; omega
      have hlt' : 0 ≤ (i : Int) ∧ (i : Int) < (ys.length : Int) := by omega
      have hg := vRows_getD hlt
      have hb1 := hbl i (by omega)
      have hb2 := hbl (i + 1) (by omega)
      have hoy := ho i hlt
      have htl := txtI_len hoy.1 hoy.2
      have hi1 : IntKind.i64.wrap ((i : Int) + 1) = ((i + 1 : Nat) : Int) := by rw [wrap64 (by omega) (by omega)]; rfl
      have hb : bodyN ys (i + 1) = bodyN ys i ++ (if i = 0 then [] else [59]) ++ txtI (ys.getD i vi0) := rfl
      generalize ys.getD i vi0 = y at *
      rw [vRow] at hg
      by_cases h0 : i = 0
      · have d2 : decide ((i : Int) > 0) = false := by simp; omega
        have d2' : decide (0 < (i : Int)) = false := by simp; omega
        rw [if_pos h0, List.append_nil] at hb
        simp only [zW, zX, zD, builtinA, isLeaf, const1, ustrA, simprocAttr, ti3, ti90, ti171, ca251, cf, Tryz.results250, vRows_length, d1, d2, d2', hg]
        refine ⟨hlt', ?_⟩
        refine wpO_invoke _ _ _ _ _ _ _ _ _ _ _ _ _ _ _ _ ?_
        simp only [zW, zX, zD, builtinA, isLeaf, const1, ustrA, simprocAttr, ti3, ti90, ti171, ca251, cf, Tryz.results250]
        refine methI_invK (metI3 (by kernel_rfl) (by kernel_rfl) (by kernel_rfl) (by kernel_rfl) (by kernel_rfl) (by kernel_rfl)) (writeI y hoy.1 hoy.2 n _ j _ hbl1 (by simp; omega)) rfl (fun _ => rfl) ?_
        rintro r A2 ⟨h2, g2⟩
        simp only [zW, zX, zD, builtinA, isLeaf, const1, ustrA, simprocAttr, ti3, ti90, ti171, ca251, cf, Tryz.results250, hi1, LoopK_eq]
        refine ⟨⟨i + 1, by omega, rfl, by rw [hb]; simpa using h2, hfr.trans g2⟩, ?_⟩
        simp only [intOf]; omega
      · have d2 : decide ((i : Int) > 0) = true := by simp; omega
        have d2' : decide (0 < (i : Int)) = true := by simp; omega
        rw [if_neg h0] at hb
        simp only [zW, zX, zD, builtinA, isLeaf, const1, ustrA, simprocAttr, ti3, ti90, ti171, ca251, cf, Tryz.results250, vRows_length, d1, d2, d2', hg]
        refine ⟨hlt', ?_⟩
        refine callK_intro (by simp only [zW, zX, zD, builtinA, isLeaf, const1, ustrA, simprocAttr] <;> rfl) (bld_ws n _ j _ [59] hbl1 (by simp) (by simp; omega)) ?_ rfl
        rintro r A2 ⟨h2, g2⟩
        simp only [zW, zX, zD, builtinA, isLeaf, const1, ustrA, simprocAttr, ti3, ti90, ti171, ca251, cf, Tryz.results250]
        refine wpO_invoke _ _ _ _ _ _ _ _ _ _ _ _ _ _ _ _ ?_
        simp only [zW, zX, zD, builtinA, isLeaf, const1, ustrA, simprocAttr, ti3, ti90, ti171, ca251, cf, Tryz.results250]
        refine methI_invK (metI3 (by kernel_rfl) (by kernel_rfl) (by kernel_rfl) (by kernel_rfl) (by kernel_rfl) (by kernel_rfl)) (writeI y hoy.1 hoy.2 n _ j _ h2 (by simp; omega)) rfl (fun _ => rfl) ?_
        rintro r A3 ⟨h3, g3⟩
        simp only [zW, zX, zD, builtinA, isLeaf, const1, ustrA, simprocAttr, ti3, ti90, ti171, ca251, cf, Tryz.results250, hi1, LoopK_eq]
        refine ⟨⟨i + 1, by omega, rfl, by rw [hb]; simpa using h3, hfr.trans (g2.trans g3)⟩, ?_⟩
        simp only [intOf]; omega
    · have d1 : decide ((i : Int) < (ys.length : Int)) = false := by simp; omega
      have e : i = ys.length := by omega
      subst e
      have hb1 := hbl _ hi
      simp only [zW, zX, zD, builtinA, isLeaf, const1, ustrA, simprocAttr, ti3, ti90, ti171, ca251, cf, Tryz.results250, vRows_length, d1]
      refine callK_intro (by simp only [zW, zX, zD, builtinA, isLeaf, const1, ustrA, simprocAttr] <;> rfl) (bld_ws n _ j _ [125] hbl1 (by simp) (by simp; omega)) ?_ rfl
      rintro r A2 ⟨h2, g2⟩
      simp only [zW, zX, zD, builtinA, isLeaf, const1, ustrA, simprocAttr, ti3, ti90, ti171, ca251, cf, Tryz.results250]
      exact ⟨by simpa [txtS] using h2, hfr.trans g2⟩

set_option maxRecDepth 100000 in
theorem impl_sigWrite (ys : List VI) (h8 : ys.length ≤ 8) (ho : ∀ k, k < ys.length → okI (ys.getD k vi0) ∧ (nameI (ys.getD k vi0)).length = 1) (n : Nat) (A : List Box) (j : Nat) (h : BldAt n A j []) : ACalls Tryz.prog 249 [.slice (vRows ys), .ptr j 0] A (fun r A' => BldAt n A' j (txtS ys) ∧ Fr j A A') := by
  refine acalls_enterK (cf := cf 7 [0, 1]) foll Tryz.func249 Tryz.ntmps249 (by simp [cf]) ?_
  simp only [Tryz.f249, EnterK_some, zW, zX, zD, builtinA, isLeaf, const1, ustrA, simprocAttr, ca250, cf, Tryz.results249]
  refine callK_intro (by simp only [zW, zX, zD, builtinA, isLeaf, const1, ustrA, simprocAttr] <;> rfl) (impl_writeList ys h8 ho n _ j h) ?_ rfl
  rintro r A1 ⟨h1, g1⟩
  simp only [zW, zX, zD, builtinA, isLeaf, const1, ustrA, simprocAttr, ca250, cf, Tryz.results249]
  exact ⟨h1, g1⟩

set_option maxRecDepth 100000 in
theorem impl_textSig (ys : List VI) (h8 : ys.length ≤ 8) (ho : ∀ k, k < ys.length → okI (ys.getD k vi0) ∧ (nameI (ys.getD k vi0)).length = 1) (A : List Box) : ACalls Tryz.prog 63 [.iface 91 (.slice (vRows ys))] A (fun r A' => r = .str (txtS ys) ∧ A' = A) := by
  have hbl := bodyN_len (ys := ys) (fun k hk => txtI_len (ho k hk).1 (ho k hk).2) ys.length (by omega)
  have htl : (txtS ys).length ≤ 1000000 := by simp [txtS]; omega
  refine acalls_enter (cf := cf 7 [0, 2, 3]) foll Tryz.func63 Tryz.ntmps63 (by simp [cf]) ?_
  simp only [Tryz.f63, EnterK_some, zW, zX, zD, builtinA, isLeaf, const1, ustrA, simprocAttr, ti178, ca125, cf, Tryz.results63]
  refine wpO_invoke _ _ _ _ _ _ _ _ _ _ _ _ _ _ _ _ ?_
  simp only [zW, zX, zD, builtinA, isLeaf, const1, ustrA, simprocAttr, ti178, ca125, cf, Tryz.results63]
  have hn : BldAt A.length (A ++ [Box.tc TB [AV.nilp, AV.nils]]) A.length [] := by
    refine ⟨by omega, by simp, .nilp, .nils, ?_, .inl rfl, .inl ⟨rfl, rfl⟩⟩
    rw [Abs.getD_append_right (by omega)]
    simp
  refine ⟨249, by kernel_rfl, by kernel_rfl, callK_intro rfl (impl_sigWrite ys h8 ho A.length _ A.length hn) ?_ rfl⟩
  rintro r A2 ⟨h2, g2⟩
  simp only [zW, zX, zD, builtinA, isLeaf, const1, ustrA, simprocAttr, ti178, ca125, cf, Tryz.results63]
  refine callK_intro (by simp only [zW, zX, zD, builtinA, isLeaf, const1, ustrA, simprocAttr] <;> rfl) (bld_str A.length _ A.length (txtS ys) h2 htl) ?_ rfl
  rintro r A3 ⟨rfl, g3⟩
  have g := (g2.goes hn).trans g3
  simp only [zW, zX, zD, builtinA, isLeaf, const1, ustrA, simprocAttr, ti178, ca125, cf, Tryz.results63]
  exact ⟨g.outer, g.back⟩
end Go.Proofs.YtpoknljchikklaaGreat

/- The program's FormatSig. -/
set_option linter.unusedVariables false
set_option linter.unusedSimpArgs false
namespace Go.Proofs.YtpoknljchikklaaGreat
open Go.Abs

theorem item_reads (x : SigI) : (∃ y, localB x.name = true ∧ ItemOf x y) ∨ itemOk x = false := by
  cases hl : localB x.name with
  | false => exact .inr (by simp [itemOk, hl])
  | true =>
    by_cases k1 : x.kind = 1
    · by_cases ht : x.typ = ty0
      · exact .inl ⟨.ab x.name, rfl, rfl, k1, ht⟩
      · exact .inr (by simp [itemOk, k1, ht])
    · by_cases k2 : x.kind = 2
      · rcases valid_cases x.typ with ⟨v, h1, h2⟩ | h
        · exact .inl ⟨.al x.name v, rfl, rfl, k2, h1, h2⟩
        · exact .inr (by simp [itemOk, k2, h])
      · by_cases k3 : x.kind = 3
        · rcases valid_cases x.typ with ⟨v, h1, h2⟩ | h
          · exact .inl ⟨.va x.name v, rfl, rfl, k3, h1, h2⟩
          · exact .inr (by simp [itemOk, k3, h])
        · exact .inr (by simp [itemOk, k1, k2, k3])
theorem reads_all : ∀ s : List SigI, (∃ ys, ReadsTo s ys) ∨ ∃ x ∈ s, itemOk x = false
  | [] => .inl ⟨[], rfl, fun i hi => by simp at hi⟩
  | x :: s => by
    rcases item_reads x with ⟨y, h1, h2⟩ | h
    · rcases reads_all s with ⟨ys, h3, h4⟩ | ⟨z, h5, h6⟩
      · refine .inl ⟨y :: ys, by simp [h3], fun i hi => ?_⟩
        cases i with
        | zero => exact ⟨h1, h2⟩
        | succ i => simpa using h4 i (by simpa using hi)
      · exact .inr ⟨z, .tail _ h5, h6⟩
    · exact .inr ⟨x, .head _, h⟩
theorem item_uniq {x : SigI} {y y' : VI} (h : ItemOf x y) (h' : ItemOf x y') : y = y' := by
  cases y <;> cases y'
  case ab.ab => rw [← h.1, ← h'.1]
  case al.al => rw [← h.1, ← h'.1, toTy_inj (h.2.2.1.symm.trans h'.2.2.1)]
  case va.va => rw [← h.1, ← h'.1, toTy_inj (h.2.2.1.symm.trans h'.2.2.1)]
  all_goals (have a := h.2.1; have b := h'.2.1; rw [a] at b; simp at b)
theorem reads_uniq {s : List SigI} {ys ys' : List VI} (h : ReadsTo s ys) (h' : ReadsTo s ys') : ys = ys' := by
  refine List.ext_getElem (by rw [h.1, h'.1]) fun i h1 h2 => ?_
  have := item_uniq (h.2 i (by rw [← h.1]; exact h1)).2 (h'.2 i (by rw [← h.1]; exact h1)).2
  simpa [List.getD, h1, h2] using this

set_option maxRecDepth 100000 in
theorem impl_FormatSig (s : List SigI) (hs : s.length ≤ 1048576) (ho : ∀ x ∈ s, x.Ok ∧ sz x.typ ≤ 1048576) (t : List UInt8)
    (ht : (∃ ys, s.length ≤ 8 ∧ ReadsTo s ys ∧ ordB ys = true ∧ t = txtS ys) ∨ (sigB s = false ∧ t = [])) (A : List Box) : ACalls Tryz.prog 15 [.slice (sEs s)] A (fun r A' => r = .str t ∧ A' = A) := by
  refine acalls_enter (cf := cf 15 [0, 2, 3, 4, 11]) foll Tryz.func15 Tryz.ntmps15 (by simp [cf]) ?_
  simp only [Tryz.f15, EnterK_some, zW, zX, zD, builtinA, isLeaf, const1, ustrA, simprocAttr, ti91, ti171, ca62, ca63, cf, Tryz.results15]
  refine callK_intro (by simp only [zW, zX, zD, builtinA, isLeaf, const1, ustrA, simprocAttr, Option.map_some]; rfl) (impl_readSig s hs ho _) ?_ rfl
  rintro r A' ⟨h, rfl⟩
  rcases ht with ⟨ys, h8, hr, hb, rfl⟩ | ⟨hb, rfl⟩
  · rcases h with ⟨ys', h8', hr', rfl⟩ | ⟨hbad, rfl⟩
    · have e := reads_uniq hr' hr
      subst e
      have hw : ∀ k, k < ys'.length → okI (ys'.getD k vi0) ∧ (nameI (ys'.getD k vi0)).length = 1 := fun k hk => by
        obtain ⟨a1, a2⟩ := hr.2 k (by rw [← hr.1]; exact hk)
        obtain ⟨a3, a4⟩ := itemOf_ok a2
        exact ⟨a4, by rw [a3]; exact local_one a1⟩
      have hl8 : ys'.length ≤ 8 := by rw [hr.1]; exact h8
      simp only [zW, zX, zD, builtinA, isLeaf, const1, ustrA, simprocAttr, ti91, ti171, ca62, ca63, cf, Tryz.results15, hb, Bool.not_true]
      refine callK_intro rfl (impl_textSig ys' hl8 hw _) ?_ rfl
      rintro r A2 ⟨rfl, rfl⟩
      simp only [zW, zX, zD, builtinA, isLeaf, const1, ustrA, simprocAttr, ti91, ti171, ca62, ca63, cf, Tryz.results15]
    · have := sigB_bad hbad
      rw [sigB_reads h8 hr, hb] at this; cases this
  · rcases h with ⟨ys', h8', hr', rfl⟩ | ⟨hbad, rfl⟩
    · have e := sigB_reads h8' hr'
      rw [hb] at e
      simp only [zW, zX, zD, builtinA, isLeaf, const1, ustrA, simprocAttr, ti91, ti171, ca62, ca63, cf, Tryz.results15, ← e, Bool.not_false]
    · simp only [zW, zX, zD, builtinA, isLeaf, const1, ustrA, simprocAttr, ti91, ti171, ca62, ca63, cf, Tryz.results15]

/-- the text of a signature -/
def TxtIs (s : List SigI) (t : List UInt8) : Prop := (∃ ys, s.length ≤ 8 ∧ ReadsTo s ys ∧ ordB ys = true ∧ t = txtS ys) ∨ (sigB s = false ∧ t = [])
theorem txtIs_ex (a : List SigI) : ∃ t, TxtIs a t := by
  by_cases h8 : a.length ≤ 8
  · rcases reads_all a with ⟨ys, hr⟩ | hb
    · cases hb : ordB ys with
      | true => exact ⟨_, .inl ⟨ys, h8, hr, hb, rfl⟩⟩
      | false => exact ⟨_, .inr ⟨by rw [sigB_reads h8 hr, hb], rfl⟩⟩
    · exact ⟨_, .inr ⟨sigB_bad (.inr hb), rfl⟩⟩
  · exact ⟨_, .inr ⟨sigB_bad (.inl (by omega)), rfl⟩⟩
end Go.Proofs.YtpoknljchikklaaGreat

/- Bindings as data, and what the laws' helpers do with lists of them. -/
set_option linter.unusedVariables false
set_option linter.unusedSimpArgs false
namespace Go.Proofs.YtpoknljchikklaaGreat
open Go.Abs

structure BdI where
  mod : List UInt8
  name : List UInt8
  typ : Ty
def BdI.Ok (x : BdI) : Prop := x.mod.length < 2 ^ 63 ∧ x.name.length < 2 ^ 63 ∧ x.typ.Ok
def zbd : List AV := [.str [], .str [], .int .i64 0, .str [], .str [], .slice []]
end Go.Proofs.YtpoknljchikklaaGreat

/- Types that are owned: their lists of kids lie in boxes. -/
set_option linter.unusedVariables false
set_option linter.unusedSimpArgs false
namespace Go.Proofs.YtpoknljchikklaaGreat
open Go.Abs

mutual
/-- the cells of a type whose kids lie in the boxes of S -/
def OwnT (A : List Box) : Ty → List AV → List Nat → Prop
  | .mk k m n ks, r, S => ∃ v, r = [.int .i64 k, .str m, .str n, v] ∧ ((v = .nils ∧ ks = [] ∧ S = []) ∨ (v = .slice [] ∧ ks = [] ∧ S = []) ∨ ∃ i rows S', v = .own i ∧ S = i :: S' ∧ A.getD i .dead = .gr none 4 rows ∧ OwnR A ks rows S')
def OwnR (A : List Box) : List Ty → List (List AV) → List Nat → Prop
  | [], rows, S => rows = [] ∧ S = []
  | t :: ks, rows, S => ∃ r rows' S1 S2, rows = r :: rows' ∧ S = S1 ++ S2 ∧ OwnT A t r S1 ∧ OwnR A ks rows' S2
end
/-- a list of types that is owned -/
def OwnK (A : List Box) (ks : List Ty) (v : AV) (S : List Nat) : Prop :=
  (v = .nils ∧ ks = [] ∧ S = []) ∨ (v = .slice [] ∧ ks = [] ∧ S = []) ∨ ∃ i rows S', v = .own i ∧ S = i :: S' ∧ A.getD i .dead = .gr none 4 rows ∧ OwnR A ks rows S'

mutual
theorem OwnT.frame {A A' : List Box} : ∀ {t : Ty} {r : List AV} {S : List Nat}, OwnT A t r S → (∀ i ∈ S, A'.getD i .dead = A.getD i .dead) → OwnT A' t r S
  | .mk k m n ks, r, S, h, hf => by
    rw [OwnT] at h ⊢
    obtain ⟨v, hr, h⟩ := h
    refine ⟨v, hr, ?_⟩
    rcases h with h | h | ⟨i, rows, S', h1, h2, h3, h4⟩
    · exact .inl h
    · exact .inr (.inl h)
    · subst h2
      exact .inr (.inr ⟨i, rows, S', h1, rfl, by rw [hf i (by simp)]; exact h3, OwnR.frame h4 fun j hj => hf j (by simp [hj])⟩)
theorem OwnR.frame {A A' : List Box} : ∀ {ks : List Ty} {rows : List (List AV)} {S : List Nat}, OwnR A ks rows S → (∀ i ∈ S, A'.getD i .dead = A.getD i .dead) → OwnR A' ks rows S
  | [], rows, S, h, hf => by rw [OwnR] at h ⊢; exact h
  | t :: ks, rows, S, h, hf => by
    rw [OwnR] at h ⊢
    obtain ⟨r, rows', S1, S2, h1, h2, h3, h4⟩ := h
    subst h2
    exact ⟨r, rows', S1, S2, h1, rfl, OwnT.frame h3 fun j hj => hf j (by simp [hj]), OwnR.frame h4 fun j hj => hf j (by simp [hj])⟩
end
theorem OwnK.frame {A A' : List Box} {ks : List Ty} {v : AV} {S : List Nat} (h : OwnK A ks v S) (hf : ∀ i ∈ S, A'.getD i .dead = A.getD i .dead) : OwnK A' ks v S := by
  rcases h with h | h | ⟨i, rows, S', h1, h2, h3, h4⟩
  · exact .inl h
  · exact .inr (.inl h)
  · subst h2
    exact .inr (.inr ⟨i, rows, S', h1, rfl, by rw [hf i (by simp)]; exact h3, h4.frame fun j hj => hf j (by simp [hj])⟩)

theorem OwnR.length {A : List Box} : ∀ {ks : List Ty} {rows : List (List AV)} {S : List Nat}, OwnR A ks rows S → rows.length = ks.length
  | [], rows, S, h => by rw [OwnR] at h; rw [h.1]; rfl
  | t :: ks, rows, S, h => by
    rw [OwnR] at h
    obtain ⟨r, rows', S1, S2, h1, h2, h3, h4⟩ := h
    subst h1
    simp [OwnR.length h4]

theorem live_lt {A : List Box} {i : Nat} {b : Box} (h : A.getD i .dead = b) (hb : b ≠ .dead) : i < A.length := by
  rcases Nat.lt_or_ge i A.length with hh | hh
  · exact hh
  · simp [List.getD, Nat.not_lt.2 hh] at h; exact absurd h.symm hb

mutual
theorem OwnT.low {A : List Box} : ∀ {t : Ty} {r : List AV} {S : List Nat}, OwnT A t r S → ∀ i ∈ S, i < A.length
  | .mk k m n ks, r, S, h => by
    rw [OwnT] at h
    obtain ⟨v, hr, h⟩ := h
    rcases h with ⟨_, _, rfl⟩ | ⟨_, _, rfl⟩ | ⟨i, rows, S', h1, rfl, h3, h4⟩
    · simp
    · simp
    · intro j hj
      rcases List.mem_cons.1 hj with rfl | hj
      · exact live_lt h3 (by simp)
      · exact OwnR.low h4 j hj
theorem OwnR.low {A : List Box} : ∀ {ks : List Ty} {rows : List (List AV)} {S : List Nat}, OwnR A ks rows S → ∀ i ∈ S, i < A.length
  | [], rows, S, h => by rw [OwnR] at h; rw [h.2]; simp
  | t :: ks, rows, S, h => by
    rw [OwnR] at h
    obtain ⟨r, rows', S1, S2, h1, rfl, h3, h4⟩ := h
    intro j hj
    rcases List.mem_append.1 hj with hj | hj
    · exact OwnT.low h3 j hj
    · exact OwnR.low h4 j hj
end
theorem OwnK.low {A : List Box} {ks : List Ty} {v : AV} {S : List Nat} (h : OwnK A ks v S) : ∀ i ∈ S, i < A.length := by
  rcases h with ⟨_, _, rfl⟩ | ⟨_, _, rfl⟩ | ⟨i, rows, S', h1, rfl, h3, h4⟩
  · simp
  · simp
  · intro j hj
    rcases List.mem_cons.1 hj with rfl | hj
    · exact live_lt h3 (by simp)
    · exact h4.low j hj

/-! ### as they are read -/
theorem enc4 (k : Int) (m n : List UInt8) (ks : List Ty) : enc (.mk k m n ks) = [.int .i64 k, .str m, .str n, .slice (encs ks)] := by rw [enc]

theorem rows_view {A : List Box} {i : Nat} {rows : List (List AV)} {ks : List Ty} (h : A.getD i .dead = .gr none 4 rows) (hl : rows.length = ks.length)
    (hv : ∀ k, k < rows.length → ∀ j, j < 4 → View A ((rows.getD k []).getD j .bot) ((enc (ks.getD k ty0)).getD j .bot)) : View A (.own i) (.slice (encs ks)) := by
  refine .gr i 4 none rows (encs ks) h (by rw [encs_length, hl]) (fun r hr => ?_) fun k j hk hj => ?_
  · rw [encs_map] at hr
    obtain ⟨t, _, rfl⟩ := List.mem_map.1 hr
    exact ⟨enc_length t, enc_leaf t⟩
  · unfold Abs.rowAt
    rw [encs_getD (by omega)]
    exact hv k hk j hj

mutual
theorem OwnT.view {A : List Box} : ∀ {t : Ty} {r : List AV} {S : List Nat}, OwnT A t r S → r.length = 4 ∧ ∀ j, j < 4 → View A (r.getD j .bot) ((enc t).getD j .bot)
  | .mk k m n ks, r, S, h => by
    rw [OwnT] at h
    obtain ⟨v, rfl, h⟩ := h
    have hk : View A v (.slice (encs ks)) := by
      rcases h with ⟨rfl, rfl, _⟩ | ⟨rfl, rfl, _⟩ | ⟨i, rows, S', rfl, _, h3, h4⟩
      · exact .nils
      · exact .leaf _ rfl
      · exact rows_view h3 h4.length (OwnR.view h4)
    refine ⟨rfl, fun j hj => ?_⟩
    rw [enc4]
    match j, hj with
    | 0, _ => exact .leaf _ rfl
    | 1, _ => exact .leaf _ rfl
    | 2, _ => exact .leaf _ rfl
    | 3, _ => exact hk
theorem OwnR.view {A : List Box} : ∀ {ks : List Ty} {rows : List (List AV)} {S : List Nat}, OwnR A ks rows S → ∀ k, k < rows.length → ∀ j, j < 4 → View A ((rows.getD k []).getD j .bot) ((enc (ks.getD k ty0)).getD j .bot)
  | [], rows, S, h => by rw [OwnR] at h; rw [h.1]; intro k hk; simp at hk
  | t :: ks, rows, S, h => by
    rw [OwnR] at h
    obtain ⟨r, rows', S1, S2, rfl, h2, h3, h4⟩ := h
    intro k hk j hj
    cases k with
    | zero => exact (OwnT.view h3).2 j hj
    | succ k =>
      have := OwnR.view h4 k (by simpa using hk) j hj
      simpa using this
end
theorem OwnK.view {A : List Box} {ks : List Ty} {v : AV} {S : List Nat} (h : OwnK A ks v S) : View A v (.slice (encs ks)) := by
  rcases h with ⟨rfl, rfl, _⟩ | ⟨rfl, rfl, _⟩ | ⟨i, rows, S', rfl, _, h3, h4⟩
  · exact .nils
  · exact .leaf _ rfl
  · exact rows_view h3 h4.length h4.view
end Go.Proofs.YtpoknljchikklaaGreat
