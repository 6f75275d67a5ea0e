/- What the methods of strings.Builder do. -/
import Derived.Test.YtmgppdedcciogaaGreatBld
import Derived.Test.YtmgppdedcciogaaGreatAbsW3
set_option linter.unusedVariables false
set_option linter.unusedSimpArgs false
namespace Go.Proofs.YtmgppdedcciogaaGreat
open Go.Abs

/-- a builder with these bytes, in boxes from n on -/
def BldAt (n : Nat) (A : List Box) (i : Nat) (bs : List UInt8) : Prop :=
  n ≤ i ∧ i < A.length ∧ ∃ p v, A.getD i .dead = .tc TB [p, v] ∧ (p = .nilp ∨ p = .ptr i 0) ∧ ((v = .nils ∧ bs = []) ∨ ∃ j, v = .own j ∧ n ≤ j ∧ j < A.length ∧ i ≠ j ∧ A.getD j .dead = .gr (some TU) 1 (byteRows bs) ∧ bs ≠ [])

def Goes (n : Nat) (A A' : List Box) : Prop := A.length ≤ A'.length ∧ A'.take n = A.take n
theorem Goes.refl (n : Nat) (A : List Box) : Goes n A A := ⟨Nat.le_refl _, rfl⟩
theorem Goes.trans {n : Nat} {A B C : List Box} (h : Goes n A B) (k : Goes n B C) : Goes n A C := ⟨Nat.le_trans h.1 k.1, k.2.trans h.2⟩
theorem Goes.set {n i : Nat} {A A' : List Box} {b : Box} (h : Goes n A A') (hi : n ≤ i) : Goes n A (A'.set i b) := ⟨by simpa using h.1, by rw [List.take_set, List.set_eq_of_length_le (by simp; omega)]; exact h.2⟩
theorem Goes.app {n : Nat} {A A' : List Box} {B : List Box} (h : Goes n A A') (hn : n ≤ A'.length) : Goes n A (A' ++ B) := ⟨by simp; have := h.1; omega, by rw [List.take_append_of_le_length hn]; exact h.2⟩

/-- where the bytes lie behind a write -/
theorem bld_at {n i : Nat} {A : List Box} {B : List Box} {bs : List UInt8} {m : Nat} (hn : n ≤ i) (hil : i < A.length) (hm : n ≤ m) (hml : m < A.length) (him : i ≠ m) (hA : A.getD m .dead = .gr (some TU) 1 (byteRows bs)) (hb : bs ≠ []) :
    BldAt n (A.set i (.tc TB [.ptr i 0, .own m])) i bs :=
  ⟨hn, by simpa using hil, _, _, getD_set_self hil, .inr rfl, .inr ⟨m, rfl, hm, by simpa using hml, him, by rw [getD_set_ne' him]; exact hA, hb⟩⟩

/-- the box in which a builder's bytes lie -/
def rowIx (A : List Box) (i : Nat) : Nat :=
  match A.getD i .dead with
  | .tc _ [_, .own k] => k
  | _ => i
/-- nothing but the builder i changes -/
def Fr (i : Nat) (A A' : List Box) : Prop := A.length ≤ A'.length ∧ (rowIx A' i = rowIx A i ∨ A.length ≤ rowIx A' i) ∧ ∀ k, k < A.length → k ≠ i → k ≠ rowIx A i → A'.getD k .dead = A.getD k .dead
theorem Fr.refl (i : Nat) (A : List Box) : Fr i A A := ⟨Nat.le_refl _, .inl rfl, fun _ _ _ _ => rfl⟩
theorem Fr.trans {i : Nat} {A B C : List Box} (h : Fr i A B) (k : Fr i B C) : Fr i A C := by
  obtain ⟨a1, a2, a3⟩ := h
  obtain ⟨b1, b2, b3⟩ := k
  refine ⟨by omega, by omega, fun x hx hi hr => ?_⟩
  rw [b3 x (by omega) hi (by omega), a3 x hx hi hr]
theorem Fr.app {i : Nat} {A : List Box} (hi : i < A.length) (B : List Box) : Fr i A (A ++ B) := by
  have e : (A ++ B).getD i .dead = A.getD i .dead := Abs.getD_append_left hi
  refine ⟨by simp, .inl (by unfold rowIx; rw [e]), fun k hk _ _ => Abs.getD_append_left hk⟩
theorem BldAt.row_ge {n i : Nat} {A : List Box} {bs : List UInt8} (h : BldAt n A i bs) : n ≤ rowIx A i := by
  obtain ⟨hn, hil, p, v, hA, hp, hv⟩ := h
  unfold rowIx
  rw [hA]
  rcases hv with ⟨rfl, _⟩ | ⟨j, rfl, hj, _⟩
  · exact hn
  · exact hj
theorem Fr.goes {n i : Nat} {A A' : List Box} {bs : List UInt8} (h : Fr i A A') (hb : BldAt n A i bs) : Goes n A A' := by
  have h1 := hb.row_ge
  have h2 := hb.1
  have h3 := hb.2.1
  obtain ⟨a1, a2, a3⟩ := h
  refine ⟨a1, List.ext_getElem? fun k => ?_⟩
  by_cases hk : k < n
  · have := a3 k (by omega) (by omega) (by omega)
    simp only [List.getD] at this
    simp only [List.getElem?_take, hk, if_true]
    have e1 : k < A.length := by omega
    have e2 : k < A'.length := by omega
    simpa [e1, e2] using this
  · simp [List.getElem?_take, hk]
theorem fr_end {i j m : Nat} {A X Y B : List Box} (hil : i < A.length) (hm : A.length ≤ m) (hl : A.length ≤ X.length) (hX : ∀ k, k < A.length → k ≠ i → k ≠ rowIx A i → X.getD k .dead = A.getD k .dead) :
    Fr i A (X.set i (.tc TB [.ptr i 0, .own m])) := by
  refine ⟨by simpa using hl, .inr ?_, fun k hk hi hr => ?_⟩
  · unfold rowIx; rw [getD_set_self (by omega)]; exact hm
  · rw [getD_set_ne' (Ne.symm hi)]; exact hX k hk hi hr

theorem Goes.back {A B C : List Box} (h : Goes A.length (A ++ B) C) : C.take A.length = A := by rw [h.2, List.take_append_of_le_length (Nat.le_refl _), List.take_length]
theorem Goes.outer {A B C : List Box} (h : Goes A.length (A ++ B) C) : Outer A C := by
  have h1 := h.1
  refine ⟨by simp at h1; omega, fun i hi => .inl ?_⟩
  have e : (C.take A.length).getD i .dead = C.getD i .dead := getD_take _ _ _ _ hi
  rw [← e, h.back]

theorem byteRows_app (a b : List UInt8) : byteRows (a ++ b) = byteRows a ++ byteRows b := by simp [byteRows]

set_option maxRecDepth 100000 in
theorem bld_ws (n : Nat) (A : List Box) (i : Nat) (bs : List UInt8) (s : List UInt8) (h : BldAt n A i bs) (hs : s ≠ []) (hl : bs.length + s.length ≤ 1000000) :
    ACalls Tryz.prog 119 [.ptr i 0, .str s] A (fun r A' => BldAt n A' i (bs ++ s) ∧ Fr i A A') := by
  obtain ⟨hn, hil, p, v, hA, hp, hv⟩ := h
  have hsl : 0 < s.length := List.length_pos_iff.2 hs
  have hx : ∀ x ∈ (s.map fun b => [AV.int .u8 (b.toNat : Nat)]), x.length = 1 := by simp
  rcases hv with ⟨rfl, rfl⟩ | ⟨j, rfl, hnj, hj, hij, hAj, hbs⟩
  · skip
    refine acalls_enterK (cf := cf 19 [0, 1, 4, 5]) foll Tryz.func119 Tryz.ntmps119 (by simp [cf]) ?_
    simp only [Tryz.f119, EnterK_some, zW, zX, zD, builtinA, isLeaf, const1, Nat.reduceAdd, Nat.reduceMul, Nat.reduceSub, Nat.reduceLT, Nat.reduceLeDiff, Nat.reduceEqDiff, Nat.reduceBEq, Nat.reduceBNe, reduceIte, reduceCtorEq, Int.reduceToNat, Int.reduceLT, Int.reduceLE, Int.reduceEq, Int.reduceNe, Int.reduceNeg, ustrA, ti5, ti9, ti22, ti115, ca120, cf, Tryz.results119]
    refine callK_intro (by simp only [zW, zX, zD, builtinA, isLeaf, const1, Nat.reduceAdd, Nat.reduceMul, Nat.reduceSub, Nat.reduceLT, Nat.reduceLeDiff, Nat.reduceEqDiff, Nat.reduceBEq, Nat.reduceBNe, reduceIte, reduceCtorEq, Int.reduceToNat, Int.reduceLT, Int.reduceLE, Int.reduceEq, Int.reduceNe, Int.reduceNeg, ustrA] <;> rfl) (bld_cc A i p _ hA hp) ?_ rfl
    rintro r A' ⟨rfl, rfl⟩
    have g0 : (A.set i (.tc TB [.ptr i 0, .nils])).getD i .dead = .tc TB [.ptr i 0, .nils] := getD_set1 hil
    have g1 : ∀ B, (A.set i (.tc TB [.ptr i 0, .nils]) ++ B).getD i .dead = .tc TB [.ptr i 0, .nils] := fun B => by rw [Abs.getD_append_left (by simpa using hil)]; exact g0
    have g3 : ∀ B C, ((A.set i (.tc TB [.ptr i 0, .nils]) ++ B) ++ C).getD i .dead = .tc TB [.ptr i 0, .nils] := fun B C => by rw [List.append_assoc]; exact g1 _
    simp only [zW, zX, zD, builtinA, isLeaf, const1, Nat.reduceAdd, Nat.reduceMul, Nat.reduceSub, Nat.reduceLT, Nat.reduceLeDiff, Nat.reduceEqDiff, Nat.reduceBEq, Nat.reduceBNe, reduceIte, reduceCtorEq, Int.reduceToNat, Int.reduceLT, Int.reduceLE, Int.reduceEq, Int.reduceNe, Int.reduceNeg, ustrA, ti5, ti9, ti22, ti115, ca120, cf, Tryz.results119, g0, g1, g3]
    refine ⟨⟨hx, by simpa using hsl, by simp; omega⟩, ?_, ?_⟩
    · exact bld_at (B := []) hn (by simp; omega) (by omega : n ≤ A.length) (by simp) (by omega) (by rw [Abs.getD_append_right (by simp)]; simp [byteRows]) hs
    · exact fr_end (j := 0) (Y := []) (B := []) hil (by omega) (by simp) fun k hk hi hr => by rw [Abs.getD_append_left (by simpa using hk), getD_set_ne' (Ne.symm hi)]
  · skip
    refine acalls_enterK (cf := cf 19 [0, 1, 4, 5]) foll Tryz.func119 Tryz.ntmps119 (by simp [cf]) ?_
    simp only [Tryz.f119, EnterK_some, zW, zX, zD, builtinA, isLeaf, const1, Nat.reduceAdd, Nat.reduceMul, Nat.reduceSub, Nat.reduceLT, Nat.reduceLeDiff, Nat.reduceEqDiff, Nat.reduceBEq, Nat.reduceBNe, reduceIte, reduceCtorEq, Int.reduceToNat, Int.reduceLT, Int.reduceLE, Int.reduceEq, Int.reduceNe, Int.reduceNeg, ustrA, ti5, ti9, ti22, ti115, ca120, cf, Tryz.results119]
    refine callK_intro (by simp only [zW, zX, zD, builtinA, isLeaf, const1, Nat.reduceAdd, Nat.reduceMul, Nat.reduceSub, Nat.reduceLT, Nat.reduceLeDiff, Nat.reduceEqDiff, Nat.reduceBEq, Nat.reduceBNe, reduceIte, reduceCtorEq, Int.reduceToNat, Int.reduceLT, Int.reduceLE, Int.reduceEq, Int.reduceNe, Int.reduceNeg, ustrA] <;> rfl) (bld_cc A i p _ hA hp) ?_ rfl
    rintro r A' ⟨rfl, rfl⟩
    have g0 : (A.set i (.tc TB [.ptr i 0, .own j])).getD i .dead = .tc TB [.ptr i 0, .own j] := getD_set1 hil
    have hrx : rowIx A i = j := by unfold rowIx; rw [hA]
    have gj : (A.set i (.tc TB [.ptr i 0, .own j])).getD j .dead = .gr (some TU) 1 (byteRows bs) := by rw [getD_set_ne' hij]; exact hAj
    have gj' : ∀ B, (A.set i (.tc TB [.ptr i 0, .own j]) ++ B).getD j .dead = .gr (some TU) 1 (byteRows bs) := fun B => by rw [Abs.getD_append_left (by simpa using hj)]; exact gj
    have g1 : ∀ B, (A.set i (.tc TB [.ptr i 0, .own j]) ++ B).getD i .dead = .tc TB [.ptr i 0, .own j] := fun B => by rw [Abs.getD_append_left (by simpa using hil)]; exact g0
    have g2 : ∀ B, ((A.set i (.tc TB [.ptr i 0, .own j])).set j .dead ++ B).getD i .dead = .tc TB [.ptr i 0, .own j] := fun B => by
      rw [Abs.getD_append_left (by simpa using hil), getD_set_ne' (Ne.symm hij)]; exact g0
    have g3 : ∀ B C, ((A.set i (.tc TB [.ptr i 0, .own j]) ++ B).set j .dead ++ C).getD i .dead = .tc TB [.ptr i 0, .own j] := fun B C => by
      rw [Abs.getD_append_left (by simp; omega), getD_set_ne' (Ne.symm hij)]; exact g1 _
    simp only [zW, zX, zD, builtinA, isLeaf, const1, Nat.reduceAdd, Nat.reduceMul, Nat.reduceSub, Nat.reduceLT, Nat.reduceLeDiff, Nat.reduceEqDiff, Nat.reduceBEq, Nat.reduceBNe, reduceIte, reduceCtorEq, Int.reduceToNat, Int.reduceLT, Int.reduceLE, Int.reduceEq, Int.reduceNe, Int.reduceNeg, ustrA, ti5, ti9, ti22, ti115, ca120, cf, Tryz.results119, g0, g1, g2, g3, gj, gj']
    refine ⟨⟨fun t ht => (Option.some.inj ht).symm, hx, by simp [byteRows]; omega⟩, ?_, ?_⟩
    · exact bld_at (B := []) hn (by simp; omega) (by omega : n ≤ A.length) (by simp) (by omega) (by rw [Abs.getD_append_right (by simp)]; simp [byteRows]) (by simp [hs])
    · exact fr_end (j := 0) (Y := []) (B := []) hil (by omega) (by simp) fun k hk hi hr => by rw [Abs.getD_append_left (by simpa using hk), getD_set_ne' (fun e => hr (by rw [hrx]; exact e.symm)), getD_set_ne' (Ne.symm hi)]

set_option maxRecDepth 100000 in
theorem bld_wb (n : Nat) (A : List Box) (i : Nat) (bs : List UInt8) (c : UInt8) (h : BldAt n A i bs) (hl : bs.length + 1 ≤ 1000000) :
    ACalls Tryz.prog 128 [.ptr i 0, .int .u8 (c.toNat : Nat)] A (fun r A' => BldAt n A' i (bs ++ [c]) ∧ Fr i A A') := by
  obtain ⟨hn, hil, p, v, hA, hp, hv⟩ := h
  have hs : [c] ≠ [] := by simp
  have hx : ∀ x ∈ [[AV.int .u8 (c.toNat : Nat)]], x.length = 1 := by simp
  rcases hv with ⟨rfl, rfl⟩ | ⟨j, rfl, hnj, hj, hij, hAj, hbs⟩
  · skip
    refine acalls_enterK (cf := cf 17 [0, 1, 4]) foll Tryz.func128 Tryz.ntmps128 (by simp [cf]) ?_
    simp only [Tryz.f128, EnterK_some, zW, zX, zD, builtinA, isLeaf, const1, Nat.reduceAdd, Nat.reduceMul, Nat.reduceSub, Nat.reduceLT, Nat.reduceLeDiff, Nat.reduceEqDiff, Nat.reduceBEq, Nat.reduceBNe, reduceIte, reduceCtorEq, Int.reduceToNat, Int.reduceLT, Int.reduceLE, Int.reduceEq, Int.reduceNe, Int.reduceNeg, ustrA, ti5, ti22, ti115, ca120, cf, Tryz.results128]
    refine callK_intro (by simp only [zW, zX, zD, builtinA, isLeaf, const1, Nat.reduceAdd, Nat.reduceMul, Nat.reduceSub, Nat.reduceLT, Nat.reduceLeDiff, Nat.reduceEqDiff, Nat.reduceBEq, Nat.reduceBNe, reduceIte, reduceCtorEq, Int.reduceToNat, Int.reduceLT, Int.reduceLE, Int.reduceEq, Int.reduceNe, Int.reduceNeg, ustrA] <;> rfl) (bld_cc A i p _ hA hp) ?_ rfl
    rintro r A' ⟨rfl, rfl⟩
    have g0 : (A.set i (.tc TB [.ptr i 0, .nils])).getD i .dead = .tc TB [.ptr i 0, .nils] := getD_set1 hil
    have g1 : ∀ B, (A.set i (.tc TB [.ptr i 0, .nils]) ++ B).getD i .dead = .tc TB [.ptr i 0, .nils] := fun B => by rw [Abs.getD_append_left (by simpa using hil)]; exact g0
    have g3 : ∀ B C, ((A.set i (.tc TB [.ptr i 0, .nils]) ++ B) ++ C).getD i .dead = .tc TB [.ptr i 0, .nils] := fun B C => by rw [List.append_assoc]; exact g1 _
    simp only [zW, zX, zD, builtinA, isLeaf, const1, Nat.reduceAdd, Nat.reduceMul, Nat.reduceSub, Nat.reduceLT, Nat.reduceLeDiff, Nat.reduceEqDiff, Nat.reduceBEq, Nat.reduceBNe, reduceIte, reduceCtorEq, Int.reduceToNat, Int.reduceLT, Int.reduceLE, Int.reduceEq, Int.reduceNe, Int.reduceNeg, ustrA, ti5, ti22, ti115, ca120, cf, Tryz.results128, g0, g1, g3]
    refine ⟨by simp, hx, ?_, ?_⟩
    · exact bld_at (B := []) hn (by simp; omega) (by omega : n ≤ A.length + 1) (by simp) (by omega) (by rw [Abs.getD_append_right (by simp)]; simp [byteRows]) hs
    · exact fr_end (j := 0) (Y := []) (B := []) hil (by omega) (by simp) fun k hk hi hr => by rw [Abs.getD_append_left (by simpa using hk), getD_set_ne' (Ne.symm hi)]
  · skip
    refine acalls_enterK (cf := cf 17 [0, 1, 4]) foll Tryz.func128 Tryz.ntmps128 (by simp [cf]) ?_
    simp only [Tryz.f128, EnterK_some, zW, zX, zD, builtinA, isLeaf, const1, Nat.reduceAdd, Nat.reduceMul, Nat.reduceSub, Nat.reduceLT, Nat.reduceLeDiff, Nat.reduceEqDiff, Nat.reduceBEq, Nat.reduceBNe, reduceIte, reduceCtorEq, Int.reduceToNat, Int.reduceLT, Int.reduceLE, Int.reduceEq, Int.reduceNe, Int.reduceNeg, ustrA, ti5, ti22, ti115, ca120, cf, Tryz.results128]
    refine callK_intro (by simp only [zW, zX, zD, builtinA, isLeaf, const1, Nat.reduceAdd, Nat.reduceMul, Nat.reduceSub, Nat.reduceLT, Nat.reduceLeDiff, Nat.reduceEqDiff, Nat.reduceBEq, Nat.reduceBNe, reduceIte, reduceCtorEq, Int.reduceToNat, Int.reduceLT, Int.reduceLE, Int.reduceEq, Int.reduceNe, Int.reduceNeg, ustrA] <;> rfl) (bld_cc A i p _ hA hp) ?_ rfl
    rintro r A' ⟨rfl, rfl⟩
    have g0 : (A.set i (.tc TB [.ptr i 0, .own j])).getD i .dead = .tc TB [.ptr i 0, .own j] := getD_set1 hil
    have hrx : rowIx A i = j := by unfold rowIx; rw [hA]
    have gj : (A.set i (.tc TB [.ptr i 0, .own j])).getD j .dead = .gr (some TU) 1 (byteRows bs) := by rw [getD_set_ne' hij]; exact hAj
    have gj' : ∀ B, (A.set i (.tc TB [.ptr i 0, .own j]) ++ B).getD j .dead = .gr (some TU) 1 (byteRows bs) := fun B => by rw [Abs.getD_append_left (by simpa using hj)]; exact gj
    have g1 : ∀ B, (A.set i (.tc TB [.ptr i 0, .own j]) ++ B).getD i .dead = .tc TB [.ptr i 0, .own j] := fun B => by rw [Abs.getD_append_left (by simpa using hil)]; exact g0
    have g2 : ∀ B, ((A.set i (.tc TB [.ptr i 0, .own j])).set j .dead ++ B).getD i .dead = .tc TB [.ptr i 0, .own j] := fun B => by
      rw [Abs.getD_append_left (by simpa using hil), getD_set_ne' (Ne.symm hij)]; exact g0
    have g3 : ∀ B C, ((A.set i (.tc TB [.ptr i 0, .own j]) ++ B).set j .dead ++ C).getD i .dead = .tc TB [.ptr i 0, .own j] := fun B C => by
      rw [Abs.getD_append_left (by simp; omega), getD_set_ne' (Ne.symm hij)]; exact g1 _
    simp only [zW, zX, zD, builtinA, isLeaf, const1, Nat.reduceAdd, Nat.reduceMul, Nat.reduceSub, Nat.reduceLT, Nat.reduceLeDiff, Nat.reduceEqDiff, Nat.reduceBEq, Nat.reduceBNe, reduceIte, reduceCtorEq, Int.reduceToNat, Int.reduceLT, Int.reduceLE, Int.reduceEq, Int.reduceNe, Int.reduceNeg, ustrA, ti5, ti22, ti115, ca120, cf, Tryz.results128, g0, g1, g2, g3, gj, gj']
    refine ⟨by simp, ⟨fun t ht => (Option.some.inj ht).symm, hx, by simp [byteRows]; omega⟩, ?_, ?_⟩
    · exact bld_at (B := []) hn (by simp; omega) (by omega : n ≤ A.length + 1) (by simp) (by omega) (by rw [Abs.getD_append_right (by simp)]; simp [byteRows]) (by simp)
    · exact fr_end (j := 0) (Y := []) (B := []) hil (by omega) (by simp; omega) fun k hk hi hr => by rw [Abs.getD_append_left (by simp; omega), getD_set_ne' (fun e => hr (by rw [hrx]; exact e.symm)), Abs.getD_append_left (by simpa using hk), getD_set_ne' (Ne.symm hi)]

set_option maxRecDepth 100000 in
theorem bld_str (n : Nat) (A : List Box) (i : Nat) (bs : List UInt8) (h : BldAt n A i bs) (hl : bs.length ≤ 1000000) :
    ACalls Tryz.prog 70 [.ptr i 0] A (fun r A' => r = .str bs ∧ Goes n A A') := by
  obtain ⟨hn, hil, p, v, hA, hp, hv⟩ := h
  rcases hv with ⟨rfl, rfl⟩ | ⟨j, rfl, hnj, hj, hij, hAj, hbs⟩
  · skip
    refine acalls_enterK (cf := cf 14 [0, 2]) foll Tryz.func70 Tryz.ntmps70 (by simp [cf]) ?_
    simp only [Tryz.f70, EnterK_some, zW, zX, zD, builtinA, isLeaf, const1, Nat.reduceAdd, Nat.reduceMul, Nat.reduceSub, Nat.reduceLT, Nat.reduceLeDiff, Nat.reduceEqDiff, Nat.reduceBEq, Nat.reduceBNe, reduceIte, reduceCtorEq, Int.reduceToNat, Int.reduceLT, Int.reduceLE, Int.reduceEq, Int.reduceNe, Int.reduceNeg, ustrA, ti3, ti5, ti22, ti115, ti144, cf, Tryz.results70]
    refine .inr (drawE_intro [(false, 0, 0), (false, 0, 0), (false, 0, 0), (false, 0, 0), (false, 0, 0), (false, 0, 0), (false, 0, 0), (false, 0, 0), (false, 0, 0), (false, 0, 0), (true, 0, 0), (false, 1, 1)] [A, A] 1 rfl (by kernel_rfl) (by kernel_rfl) (by kernel_rfl) (by kernel_rfl) (by kernel_rfl) (by kernel_rfl) ?_)
    simp only [zW, zX, zD, builtinA, isLeaf, const1, Nat.reduceAdd, Nat.reduceMul, Nat.reduceSub, Nat.reduceLT, Nat.reduceLeDiff, Nat.reduceEqDiff, Nat.reduceBEq, Nat.reduceBNe, reduceIte, reduceCtorEq, Int.reduceToNat, Int.reduceLT, Int.reduceLE, Int.reduceEq, Int.reduceNe, Int.reduceNeg, ustrA, ti3, ti5, ti22, ti115, ti144, cf, Tryz.results70, hA]
    exact ⟨rfl, Goes.refl n A⟩
  · skip
    refine acalls_enterK (cf := cf 14 [0, 2]) foll Tryz.func70 Tryz.ntmps70 (by simp [cf]) ?_
    simp only [Tryz.f70, EnterK_some, zW, zX, zD, builtinA, isLeaf, const1, Nat.reduceAdd, Nat.reduceMul, Nat.reduceSub, Nat.reduceLT, Nat.reduceLeDiff, Nat.reduceEqDiff, Nat.reduceBEq, Nat.reduceBNe, reduceIte, reduceCtorEq, Int.reduceToNat, Int.reduceLT, Int.reduceLE, Int.reduceEq, Int.reduceNe, Int.reduceNeg, ustrA, ti3, ti5, ti22, ti115, ti144, cf, Tryz.results70]
    refine .inr (drawE_intro [(false, 0, 0), (false, 0, 0), (false, 0, 0), (false, 0, 0), (false, 0, 0), (false, 0, 0), (false, 0, 0), (false, 0, 0), (false, 0, 0), (false, 0, 0), (true, 0, 0), (false, 1, 1)] [A, A.set j .dead] 1 rfl (by kernel_rfl) (by kernel_rfl) (by kernel_rfl) (by kernel_rfl) (by kernel_rfl) (by kernel_rfl) ?_)
    simp only [zW, zX, zD, builtinA, isLeaf, const1, Nat.reduceAdd, Nat.reduceMul, Nat.reduceSub, Nat.reduceLT, Nat.reduceLeDiff, Nat.reduceEqDiff, Nat.reduceBEq, Nat.reduceBNe, reduceIte, reduceCtorEq, Int.reduceToNat, Int.reduceLT, Int.reduceLE, Int.reduceEq, Int.reduceNe, Int.reduceNeg, ustrA, ti3, ti5, ti22, ti115, ti144, cf, Tryz.results70, hA, hAj]
    have h1 : 0 < (byteRows bs).length := by simp [byteRows]; exact List.length_pos_iff.2 hbs
    have h2 : List.map Abs.byteOf (byteRows bs) = bs := by
      simp only [byteRows, List.map_map]
      conv => rhs; rw [← List.map_id bs]
      apply List.map_congr_left
      intro b _
      simp [Abs.byteOf]
    refine ⟨h1, ⟨h1, fun r hr => ?_, by simp [byteRows]; omega⟩, by rw [h2], (Goes.refl n A).set hnj⟩
    obtain ⟨b, _, rfl⟩ := List.mem_map.1 hr
    have := b.toNat_lt
    first
      | (simp; done)
      | (simp; omega)
      | (simp [Abs.isOctet]; done)
      | (simp [Abs.isOctet]; omega)
end Go.Proofs.YtmgppdedcciogaaGreat
