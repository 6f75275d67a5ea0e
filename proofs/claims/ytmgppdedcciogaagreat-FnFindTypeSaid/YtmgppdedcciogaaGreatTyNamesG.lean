/- The program's TypeNames. -/
import Derived.Test.YtmgppdedcciogaaGreatEachG
import Derived.Test.YtmgppdedcciogaaGreatOwnTy
import Derived.Test.YtmgppdedcciogaaGreatAbsW3
set_option linter.unusedVariables false
set_option linter.unusedSimpArgs false
namespace Go.Proofs.YtmgppdedcciogaaGreat
open Go.Abs

def nmE (p : Nm) : List AV := [.str p.1, .str p.2]
def esN (ns : List Nm) : List (AV × AV) := ns.map fun p => (.agg (nmE p), .bool true)
abbrev KN : List (Nat × TK) := [(0, .str), (1, .str)]
theorem nmE_eq (x y : Nm) : eqK KN (nmE x) (nmE y) = some (decide (x = y)) := by
  have : decide (x = y) = (decide (x.1 = y.1) && (decide (x.2 = y.2) && true)) := by
    rw [Bool.eq_iff_iff]
    simp [Prod.ext_iff]
  rw [this]
  simp [KN, eqK, nmE, c1A]
  try congr 1
theorem find_n (q : Nm) : ∀ (ks : List Nm) (n : Nat), ∃ r, findA KN (nmE q) (esN ks) n = some r ∧ lkV r (.bool false) = .bool (decide (q ∈ ks)) ∧ (r = none ↔ q ∉ ks)
  | [], n => ⟨none, rfl, by simp [lkV], by simp⟩
  | p :: ks, n => by
    obtain ⟨r, h1, h2, h3⟩ := find_n q ks (n + 1)
    simp only [esN, List.map_cons, findA]
    rw [if_pos (show (nmE p).length = (nmE q).length from rfl), nmE_eq]
    by_cases h : q = p
    · subst h
      simp only [decide_true]
      exact ⟨_, rfl, by simp [lkV], by simp⟩
    · simp only [decide_eq_false h]
      refine ⟨r, h1, ?_, ?_⟩
      · rw [h2]; simp [h]
      · rw [h3]; simp [h]

/-- the box in which the list lies -/
def rowN (A : List Box) (i : Nat) : Nat :=
  match A.getD i .dead with
  | .cells [.own k] => k
  | _ => i
def FrL (i im : Nat) (A A' : List Box) : Prop := A.length ≤ A'.length ∧ (rowN A' i = rowN A i ∨ A.length ≤ rowN A' i) ∧ ∀ k, k < A.length → k ≠ i → k ≠ im → k ≠ rowN A i → A'.getD k .dead = A.getD k .dead
theorem FrL.refl (i im : Nat) (A : List Box) : FrL i im A A := ⟨Nat.le_refl _, .inl rfl, fun _ _ _ _ _ => rfl⟩
theorem FrL.trans {i im : Nat} {A B C : List Box} (h : FrL i im A B) (k : FrL i im B C) : FrL i im A C := by
  obtain ⟨a1, a2, a3⟩ := h
  obtain ⟨b1, b2, b3⟩ := k
  refine ⟨by omega, by omega, fun x hx hi hm hr => ?_⟩
  rw [b3 x (by omega) hi hm (by omega), a3 x hx hi hm hr]
theorem FrL.app {i im : Nat} {A : List Box} (hi : i < A.length) (B : List Box) : FrL i im A (A ++ B) := by
  have e : (A ++ B).getD i .dead = A.getD i .dead := Abs.getD_append_left hi
  refine ⟨by simp, .inl (by unfold rowN; rw [e]), fun k hk _ _ _ => Abs.getD_append_left hk⟩

/-- the list of names, in a cell -/
structure LstN (n i im : Nat) (ns : List Nm) (A : List Box) : Prop where
  lo : n ≤ i ∧ i < A.length
  ok : nOk ns
  lst : ∃ r, A.getD i .dead = .cells [r] ∧ OwnL A ns r ∧ n ≤ rowN A i ∧ (∀ j, r = .own j → j ≠ i ∧ j ≠ im)
theorem LstN.app {n i im : Nat} {ns : List Nm} {A : List Box} (h : LstN n i im ns A) (B : List Box) : LstN n i im ns (A ++ B) := by
  obtain ⟨⟨l1, l2⟩, ho, r, h1, h2, h3, h4⟩ := h
  refine ⟨⟨l1, by simp; omega⟩, ho, r, by rw [Abs.getD_append_left l2]; exact h1, h2.app B, ?_, h4⟩
  unfold rowN at h3 ⊢
  rw [Abs.getD_append_left l2]; exact h3
theorem LstN.row_lt {n i im : Nat} {ns : List Nm} {A : List Box} (h : LstN n i im ns A) : rowN A i < A.length := by
  obtain ⟨⟨l1, l2⟩, ho, r, h1, h2, h3, h4⟩ := h
  unfold rowN
  rw [h1]
  rcases h2 with ⟨rfl, _⟩ | ⟨j, rfl, hj, _⟩
  · exact l2
  · exact hj
abbrev zrow : List AV := [.int .i64 0, .str [], .str [], .slice []]
abbrev nty_row (p : Nm) : List AV := [.int .i64 3, .str p.1, .str p.2, .slice []]

set_option maxRecDepth 100000 in
theorem name_plain0 (m k : List UInt8) (A : List Box) : ACalls Tryz.prog 48 [.agg [.str m, .str k]] A (fun r A' => r = .agg [.int .i64 3, .str m, .str k, .slice []] ∧ A' = A) := by
  refine acalls_enter (cf := cf 8 [0, 1, 2]) foll Tryz.func48 Tryz.ntmps48 (by simp [cf]) ?_
  simp only [Tryz.f48, EnterK_some, zW, zX, zD, builtinA, isLeaf, const1, Nat.reduceAdd, Nat.reduceMul, Nat.reduceSub, Nat.reduceLT, Nat.reduceLeDiff, Nat.reduceEqDiff, Nat.reduceBEq, Nat.reduceBNe, reduceIte, reduceCtorEq, Int.reduceToNat, Int.reduceLT, Int.reduceLE, Int.reduceEq, Int.reduceNe, Int.reduceNeg, ustrA, ti9, ti33, ti83, cf, Tryz.results48]
  try simp

theorem zrow_one : (#[Value.int IntKind.i64 0, Value.string { data := #[] }, Value.string { data := #[] }, Value.slice none 0 0].all fun x => x.oneCell') = true := by kernel_rfl
theorem nrows_app (ns : List Nm) (p : Nm) : nrows (ns ++ [p]) = nrows ns ++ [nty_row p] := by
  simp [nrows, encs_map, nty_enc]
theorem leaf_zrow : ∀ v ∈ zrow, isLeaf v = true := by simp [isLeaf]
theorem leaf_nrow (p : Nm) : ∀ v ∈ nty_row p, isLeaf v = true := by simp [isLeaf]
theorem add_fin {n i im : Nat} {ns : List Nm} {A : List Box} {p : Nm} (hok : nOk (ns ++ [p])) (h : LstN n i im ns A) (him : im < A.length) (B : List Box) (hB : B.length = A.length + 2) (hk : ∀ k, k < A.length → k ≠ i → k ≠ rowN A i → B.getD k .dead = A.getD k .dead) :
    LstN n i im (ns ++ [p]) ((B ++ [Box.row 4 (nrows ns ++ [nty_row p]) 0]).set i (.cells [.own (A.length + 2)])) ∧ FrL i im A ((B ++ [Box.row 4 (nrows ns ++ [nty_row p]) 0]).set i (.cells [.own (A.length + 2)])) ∧
      ∀ k, k < A.length → k ≠ i → k ≠ rowN A i → ((B ++ [Box.row 4 (nrows ns ++ [nty_row p]) 0]).set i (.cells [.own (A.length + 2)])).getD k .dead = A.getD k .dead := by
  obtain ⟨⟨l1, l2⟩, _⟩ := h
  have hil : i < (B ++ [Box.row 4 (nrows ns ++ [nty_row p]) 0]).length := by simp; omega
  have hgi : ((B ++ [Box.row 4 (nrows ns ++ [nty_row p]) 0]).set i (.cells [.own (A.length + 2)])).getD i .dead = .cells [.own (A.length + 2)] := getD_set_self hil
  have hrow : rowN ((B ++ [Box.row 4 (nrows ns ++ [nty_row p]) 0]).set i (.cells [.own (A.length + 2)])) i = A.length + 2 := by unfold rowN; rw [hgi]
  have hfr : ∀ k, k < A.length → k ≠ i → k ≠ rowN A i → ((B ++ [Box.row 4 (nrows ns ++ [nty_row p]) 0]).set i (.cells [.own (A.length + 2)])).getD k .dead = A.getD k .dead := fun k hk1 hk2 hk3 => by
    rw [getD_set_ne' (Ne.symm hk2), Abs.getD_append_left (by omega)]
    exact hk k hk1 hk2 hk3
  refine ⟨⟨⟨l1, by simpa using hil⟩, hok, .own (A.length + 2), hgi, .inr ⟨A.length + 2, rfl, by simp; omega, ?_⟩, by rw [hrow]; omega, ?_⟩, ⟨by simp; omega, by omega, fun k hk1 hk2 _ hk3 => hfr k hk1 hk2 hk3⟩, hfr⟩
  · rw [getD_set_ne' (by omega), Abs.getD_append_right (by omega), nrows_app]
    simp [hB]
  · intro j hj
    injection hj with hj
    omega

set_option maxRecDepth 100000 in
theorem names_add (n i im : Nat) (ns : List Nm) (A : List Box) (p : Nm) (hp : p.1.length ≤ 1 ∧ p.2.length ≤ 1) (hl : ns.length ≤ 1000) (h : LstN n i im ns A) (him : im < A.length) :
    ACalls Tryz.prog 47 [.agg [.str p.1, .str p.2], .ptr i 0] A (fun _ A' => LstN n i im (ns ++ [p]) A' ∧ FrL i im A A' ∧ ∀ k, k < A.length → k ≠ i → k ≠ rowN A i → A'.getD k .dead = A.getD k .dead) := by
  have hrl := h.row_lt
  have h0 := h
  obtain ⟨⟨l1, l2⟩, ho, r, h1, h2, h3, h4⟩ := h
  have hok : nOk (ns ++ [p]) := fun q hq => by
    rcases List.mem_append.1 hq with hq | hq
    · exact ho q hq
    · rw [List.mem_singleton.1 hq]; exact hp
  have hz := leaf_zrow
  have hn := leaf_nrow p
  rcases h2 with ⟨rfl, rfl⟩ | ⟨j, rfl, hj, hA⟩
  · have g1 : ∀ B : List Box, (A ++ B).getD i .dead = .cells [.nils] := fun B => by rw [Abs.getD_append_left l2]; exact h1
    have fin := add_fin hok h0 him (A ++ [Box.cells [.str p.1, .str p.2], .row 4 [zrow] 0]) (by simp) (fun k hk _ _ => Abs.getD_append_left hk)
    have e1 : nrows [] ++ [nty_row p] = [nty_row p] := by simp [nrows, encs]
    rw [e1, List.append_assoc] at fin
    simp only [List.cons_append, List.nil_append] at fin
    have hs1 : ∀ X : Box, ((A ++ [Box.cells [.str p.1, .str p.2], .row 4 [zrow] 0, .row 4 [zrow] 0]).set i X).getD (A.length + 2) .dead = .row 4 [zrow] 0 := fun X => by
      rw [getD_set_ne' (by omega), Abs.getD_append_right (by omega)]; simp
    have hs2 : ∀ X Y : Box, ((A ++ [Box.cells [.str p.1, .str p.2], .row 4 [zrow] 0, .row 4 [zrow] 0]).set i X).set (A.length + 2) Y = (A ++ [Box.cells [.str p.1, .str p.2], .row 4 [zrow] 0, Y]).set i X := fun X Y => by
      rw [List.set_comm _ _ (by omega), List.set_append_right _ _ (by omega)]; simp
    refine acalls_enterK (cf := cf 10 [0, 1, 2]) foll Tryz.func47 Tryz.ntmps47 (by simp [cf]) ?_
    simp only [Tryz.f47, EnterK_some, zW, zX, zD, builtinA, isLeaf, const1, Nat.reduceAdd, Nat.reduceMul, Nat.reduceSub, Nat.reduceLT, Nat.reduceLeDiff, Nat.reduceEqDiff, Nat.reduceBEq, Nat.reduceBNe, reduceIte, reduceCtorEq, Int.reduceToNat, Int.reduceLT, Int.reduceLE, Int.reduceEq, Int.reduceNe, Int.reduceNeg, ustrA, ti31, ti33, ti83, ca48, cf, Tryz.results47]
    refine .inr (drawM_intro [] (.or (.one 6 (.or (.one 7 (.one 8 .done)) (.one 8 (.one 7 .done)))) (.one 8 (.one 6 (.one 7 .done)))) [(false, 0, 1), (false, 0, 1), (false, 0, 1), (false, 0, 1), (true, 0, 0), (true, 1, 1), (false, 2, 2), (false, 2, 2), (false, 2, 2)] [A ++ [Box.cells [.str p.1, .str p.2]], A ++ [Box.cells [.str p.1, .str p.2], .row 4 [zrow] 0], A ++ [Box.cells [.str p.1, .str p.2], .row 4 [zrow] 0, .row 4 [zrow] 0]] 2 6 rfl (by kernel_rfl) (by kernel_rfl) ?_)
    simp only [zW, zX, zD, builtinA, isLeaf, const1, Nat.reduceAdd, Nat.reduceMul, Nat.reduceSub, Nat.reduceLT, Nat.reduceLeDiff, Nat.reduceEqDiff, Nat.reduceBEq, Nat.reduceBNe, reduceIte, reduceCtorEq, Int.reduceToNat, Int.reduceLT, Int.reduceLE, Int.reduceEq, Int.reduceNe, Int.reduceNeg, ustrA, ti31, ti33, ti83, ca48, cf, Tryz.results47, g1, wpMG_nil, List.take_succ_cons, List.take_zero]
    refine callEN_intro (fun A => by simp only [zW, zX, zD, builtinA, isLeaf, const1, Nat.reduceAdd, Nat.reduceMul, Nat.reduceSub, Nat.reduceLT, Nat.reduceLeDiff, Nat.reduceEqDiff, Nat.reduceBEq, Nat.reduceBNe, reduceIte, reduceCtorEq, Int.reduceToNat, Int.reduceLT, Int.reduceLE, Int.reduceEq, Int.reduceNe, Int.reduceNeg, ustrA, Option.map_some] <;> rfl) (fun A => name_plain0 p.1 p.2 A) ?_ rfl rfl
    simp only [zW, zX, zD, builtinA, isLeaf, const1, Nat.reduceAdd, Nat.reduceMul, Nat.reduceSub, Nat.reduceLT, Nat.reduceLeDiff, Nat.reduceEqDiff, Nat.reduceBEq, Nat.reduceBNe, reduceIte, reduceCtorEq, Int.reduceToNat, Int.reduceLT, Int.reduceLE, Int.reduceEq, Int.reduceNe, Int.reduceNeg, ustrA, ti31, ti33, ti83, ca48, cf, Tryz.results47, g1, hs1, hs2, zrow_one, if_true, wpY_or_eq, wpY_one_eq, wpY_done_eq, List.take_succ_cons, List.take_zero, List.drop_succ_cons, List.drop_zero]
    exact ⟨fun v hv => hz v hv, by simp, ⟨by omega, by omega⟩, fun v hv => hn v hv, fin⟩
  · have hij := (h4 j rfl).1
    have hrj : rowN A i = j := by unfold rowN; rw [h1]
    have g1 : ∀ B : List Box, (A ++ B).getD i .dead = .cells [.own j] := fun B => by rw [Abs.getD_append_left l2]; exact h1
    have gj : ∀ B : List Box, (A ++ B).getD j .dead = .row 4 (nrows ns) 0 := fun B => by rw [Abs.getD_append_left hj]; exact hA
    have hnl := nrows_length ns
    have hBl : ((A ++ [Box.cells [.str p.1, .str p.2], .row 4 [zrow] 0]).set j .dead).length = A.length + 2 := by simp
    have fin := add_fin hok h0 him ((A ++ [Box.cells [.str p.1, .str p.2], .row 4 [zrow] 0]).set j .dead) hBl (fun k hk _ hkj => by rw [getD_set_ne' (by omega), Abs.getD_append_left hk])
    have hs1 : ∀ X : Box, (((A ++ [Box.cells [.str p.1, .str p.2], .row 4 [zrow] 0]).set j .dead ++ [Box.row 4 (nrows ns ++ [zrow]) 0]).set i X).getD (A.length + 2) .dead = .row 4 (nrows ns ++ [zrow]) 0 := fun X => by
      rw [getD_set_ne' (by omega), Abs.getD_append_right (by omega)]; simp
    have hs2 : ∀ X Y : Box, (((A ++ [Box.cells [.str p.1, .str p.2], .row 4 [zrow] 0]).set j .dead ++ [Box.row 4 (nrows ns ++ [zrow]) 0]).set i X).set (A.length + 2) Y = ((A ++ [Box.cells [.str p.1, .str p.2], .row 4 [zrow] 0]).set j .dead ++ [Y]).set i X := fun X Y => by
      rw [List.set_comm _ _ (by omega), List.set_append_right _ _ (by omega)]; simp
    have hs3 : ((A ++ [Box.cells [.str p.1, .str p.2], .row 4 [zrow] 0]).set j .dead ++ [Box.row 4 (nrows ns ++ [zrow]) 0]).getD (A.length + 2) .dead = .row 4 (nrows ns ++ [zrow]) 0 := by
      rw [Abs.getD_append_right (by omega)]; simp
    have hs4 : ∀ Y : Box, ((A ++ [Box.cells [.str p.1, .str p.2], .row 4 [zrow] 0]).set j .dead ++ [Box.row 4 (nrows ns ++ [zrow]) 0]).set (A.length + 2) Y = (A ++ [Box.cells [.str p.1, .str p.2], .row 4 [zrow] 0]).set j .dead ++ [Y] := fun Y => by
      rw [List.set_append_right _ _ (by omega)]; simp
    have hs5 : ∀ Y : Box, ((A ++ [Box.cells [.str p.1, .str p.2], .row 4 [zrow] 0]).set j .dead ++ [Y]).getD i .dead = .cells [.own j] := fun Y => by
      rw [Abs.getD_append_left (by omega), getD_set_ne' hij, Abs.getD_append_left l2]; exact h1
    have hst : ∀ x, (nrows ns ++ [zrow]).set ns.length x = nrows ns ++ [x] := fun x => by rw [List.set_append_right _ _ (by omega)]; simp [hnl]
    have hgt : (nrows ns ++ [zrow]).getD ns.length [] = zrow := by rw [Abs.getD_append_right (by omega)]; simp [hnl]
    have hrl4 : ∀ r ∈ nrows ns, r.length = 4 := fun r hr => by
      rw [nrows, encs_map] at hr
      obtain ⟨t, _, rfl⟩ := List.mem_map.1 hr
      exact enc_length t
    refine acalls_enterK (cf := cf 10 [0, 1, 2]) foll Tryz.func47 Tryz.ntmps47 (by simp [cf]) ?_
    simp only [Tryz.f47, EnterK_some, zW, zX, zD, builtinA, isLeaf, const1, Nat.reduceAdd, Nat.reduceMul, Nat.reduceSub, Nat.reduceLT, Nat.reduceLeDiff, Nat.reduceEqDiff, Nat.reduceBEq, Nat.reduceBNe, reduceIte, reduceCtorEq, Int.reduceToNat, Int.reduceLT, Int.reduceLE, Int.reduceEq, Int.reduceNe, Int.reduceNeg, ustrA, ti31, ti33, ti83, ca48, cf, Tryz.results47]
    refine .inr (drawM_intro [] (.or (.one 6 (.or (.one 7 (.one 8 .done)) (.one 8 (.one 7 .done)))) (.one 8 (.one 6 (.one 7 .done)))) [(false, 0, 1), (false, 0, 1), (false, 0, 1), (false, 0, 1), (true, 0, 0), (true, 1, 1), (false, 2, 2), (false, 2, 2), (false, 2, 2)] [A ++ [Box.cells [.str p.1, .str p.2]], A ++ [Box.cells [.str p.1, .str p.2], .row 4 [zrow] 0], (A ++ [Box.cells [.str p.1, .str p.2], .row 4 [zrow] 0]).set j .dead ++ [.row 4 (nrows ns ++ [zrow]) 0]] 2 6 rfl (by kernel_rfl) (by kernel_rfl) ?_)
    simp only [zW, zX, zD, builtinA, isLeaf, const1, Nat.reduceAdd, Nat.reduceMul, Nat.reduceSub, Nat.reduceLT, Nat.reduceLeDiff, Nat.reduceEqDiff, Nat.reduceBEq, Nat.reduceBNe, reduceIte, reduceCtorEq, Int.reduceToNat, Int.reduceLT, Int.reduceLE, Int.reduceEq, Int.reduceNe, Int.reduceNeg, ustrA, ti31, ti33, ti83, ca48, cf, Tryz.results47, g1, gj, wpMG_nil, List.take_succ_cons, List.take_zero]
    refine callEN_intro (fun A => by simp only [zW, zX, zD, builtinA, isLeaf, const1, Nat.reduceAdd, Nat.reduceMul, Nat.reduceSub, Nat.reduceLT, Nat.reduceLeDiff, Nat.reduceEqDiff, Nat.reduceBEq, Nat.reduceBNe, reduceIte, reduceCtorEq, Int.reduceToNat, Int.reduceLT, Int.reduceLE, Int.reduceEq, Int.reduceNe, Int.reduceNeg, ustrA, Option.map_some] <;> rfl) (fun A => name_plain0 p.1 p.2 A) ?_ rfl rfl
    simp only [zW, zX, zD, builtinA, isLeaf, const1, Nat.reduceAdd, Nat.reduceMul, Nat.reduceSub, Nat.reduceLT, Nat.reduceLeDiff, Nat.reduceEqDiff, Nat.reduceBEq, Nat.reduceBNe, reduceIte, reduceCtorEq, Int.reduceToNat, Int.reduceLT, Int.reduceLE, Int.reduceEq, Int.reduceNe, Int.reduceNeg, ustrA, ti31, ti33, ti83, ca48, cf, Tryz.results47, g1, gj, hs1, hs2, hs3, hs4, hs5, hst, hgt, hnl, zrow_one, if_true, wpY_or_eq, wpY_one_eq, wpY_done_eq, List.take_succ_cons, List.take_zero, List.drop_succ_cons, List.drop_zero]
    have h1' : (0 : Int) ≤ (ns.length : Nat) ∧ ((ns.length : Nat) : Int) < ((ns.length + 1 : Nat) : Int) := ⟨by omega, by omega⟩
    exact ⟨fun v hv => hz v hv, ⟨by simp, by omega⟩, h1', ⟨by omega, by omega, fun v hv => hn v hv⟩, fin⟩

structure NamI (n i im is iv : Nat) (ns : List Nm) (A : List Box) : Prop where
  lst : LstN n i im ns A
  map : im < A.length ∧ A.getD im .dead = .mapb (esN ns)
  seen : is < A.length ∧ A.getD is .dead = .cells [.map im]
  vis : iv < A.length ∧ A.getD iv .dead = .cells [.func (.func 47) [] [.ptr i 0]]
  ne : i ≠ im ∧ is ≠ i ∧ is ≠ im ∧ iv ≠ i ∧ iv ≠ im ∧ n ≤ im
theorem NamI.app {n i im is iv : Nat} {ns : List Nm} {A : List Box} (h : NamI n i im is iv ns A) (B : List Box) : NamI n i im is iv ns (A ++ B) :=
  ⟨h.lst.app B, ⟨by have := h.map.1; simp; omega, by rw [Abs.getD_append_left h.map.1]; exact h.map.2⟩, ⟨by have := h.seen.1; simp; omega, by rw [Abs.getD_append_left h.seen.1]; exact h.seen.2⟩,
   ⟨by have := h.vis.1; simp; omega, by rw [Abs.getD_append_left h.vis.1]; exact h.vis.2⟩, h.ne⟩
theorem NamI.row {n i im is iv : Nat} {ns : List Nm} {A : List Box} (h : NamI n i im is iv ns A) : rowN A i ≠ im ∧ rowN A i ≠ is ∧ rowN A i ≠ iv := by
  obtain ⟨⟨_, _, r, h1, h2, _, _⟩, ⟨_, m2⟩, ⟨_, s2⟩, ⟨_, v2⟩, e1, e2, e3, e4, e5, _⟩ := h
  unfold rowN
  rw [h1]
  rcases h2 with ⟨rfl, _⟩ | ⟨j, rfl, _, hj⟩
  · exact ⟨e1, Ne.symm e2, Ne.symm e4⟩
  · refine ⟨fun e => ?_, fun e => ?_, fun e => ?_⟩
    · have e' : j = im := e
      rw [e', m2] at hj; cases hj
    · have e' : j = is := e
      rw [e', s2] at hj; cases hj
    · have e' : j = iv := e
      rw [e', v2] at hj; cases hj

theorem rowN_set {A : List Box} {i im : Nat} (X : Box) (h : i ≠ im) : rowN (A.set im X) i = rowN A i := by unfold rowN; rw [getD_set_ne' (Ne.symm h)]
theorem LstN.setm {n i im : Nat} {ns : List Nm} {A : List Box} (h : LstN n i im ns A) (hi : i ≠ im) (hr : rowN A i ≠ im) (X : Box) : LstN n i im ns (A.set im X) := by
  obtain ⟨⟨l1, l2⟩, ho, r, h1, h2, h3, h4⟩ := h
  refine ⟨⟨l1, by simpa using l2⟩, ho, r, by rw [getD_set_ne' (Ne.symm hi)]; exact h1, ?_, by rw [rowN_set X hi]; exact h3, h4⟩
  rcases h2 with h2 | ⟨j, rfl, hj, hA⟩
  · exact .inl h2
  · have : j ≠ im := by unfold rowN at hr; rw [h1] at hr; exact hr
    exact .inr ⟨j, rfl, by simpa using hj, by rw [getD_set_ne' (Ne.symm this)]; exact hA⟩
theorem FrL.setm {i im : Nat} {A : List Box} (hi : i ≠ im) (X : Box) : FrL i im A (A.set im X) :=
  ⟨by simp, .inl (rowN_set X hi), fun k _ _ hm _ => getD_set_ne' (Ne.symm hm)⟩
theorem esN_app (ns : List Nm) (p : Nm) : esN ns ++ [(.agg [.str p.1, .str p.2], .bool true)] = esN (ns ++ [p]) := by simp [esN, nmE]

set_option maxRecDepth 100000 in
theorem once_vis (n i im is iv : Nat) : Vis List.length (NamI n i im is iv) (FrL i im) (fun p ns => addN ns p) 76 [.ptr is 0, .ptr iv 0] where
  call := by kernel_rfl
  app := fun s A B h => ⟨h.app B, FrL.app h.lst.lo.2 B⟩
  grow := fun p s => addN_len s p
  trans := fun A B C h k => h.trans k
  box := fun s A A' c h hf => by
    have h1 := h.lst.lo.2
    have h2 := h.map.1
    have h3 := h.lst.row_lt
    have e : rowN (A ++ [c]) i = rowN A i := by unfold rowN; rw [Abs.getD_append_left h1]
    rw [hf.2.2 A.length (by simp) (by omega) (by omega) (by rw [e]; omega), Abs.getD_append_right (Nat.le_refl _)]
    simp
  vis := fun p ns A hp hz h => by
    have hs := nm_short hp
    have h1 := h.app [.cells [.str p.1, .str p.2]]
    have f1 : FrL i im A (A ++ [.cells [.str p.1, .str p.2]]) := FrL.app h.lst.lo.2 _
    obtain ⟨r, q1, q2, q3⟩ := find_n p ns 0
    simp only [nmE] at q1
    obtain ⟨s1, s2⟩ := h1.seen
    obtain ⟨m1, m2⟩ := h1.map
    obtain ⟨v1, v2⟩ := h1.vis
    rcases r with _ | ⟨q, w⟩
    · have hnot : p ∉ ns := q3.mp rfl
      have e : addN ns p = ns ++ [p] := by unfold addN; rw [if_neg hnot]
      obtain ⟨n1, n2, n3, n4, n5, n6⟩ := h1.ne
      obtain ⟨r1, r2, r3⟩ := h1.row
      have hl2 := h1.lst.setm n1 r1 (.mapb (esN (ns ++ [p])))
      have him2 : im < ((A ++ [Box.cells [.str p.1, .str p.2]]).set im (.mapb (esN (ns ++ [p])))).length := by simpa using m1
      have hadd := names_add n i im ns _ p ⟨hs.2, Nat.le_of_eq hs.1⟩ hz hl2 him2
      have b3 : A.length ≠ im := by have := h.map.1; omega
      have hgv : ((A ++ [Box.cells [.str p.1, .str p.2]]).set im (.mapb (esN (ns ++ [p])))).getD iv .dead = .cells [.func (.func 47) [] [.ptr i 0]] := by rw [getD_set_ne' (Ne.symm n5)]; exact v2
      have hgk : ∀ X : Box, ((A ++ [Box.cells [.str p.1, .str p.2]]).set im X).getD A.length .dead = .cells [.str p.1, .str p.2] := fun X => by rw [getD_set_ne' (Ne.symm b3), Abs.getD_append_right (Nat.le_refl _)]; simp
      have hmu := esN_app ns p
      rw [e]
      refine acalls_enterK (cf := cf 13 [0, 1, 2, 3, 7]) foll Tryz.func76 Tryz.ntmps76 (by simp [cf]) ?_
      simp only [Tryz.f76, EnterK_some, zW, zX, zD, builtinA, isLeaf, const1, Nat.reduceAdd, Nat.reduceMul, Nat.reduceSub, Nat.reduceLT, Nat.reduceLeDiff, Nat.reduceEqDiff, Nat.reduceBEq, Nat.reduceBNe, reduceIte, reduceCtorEq, Int.reduceToNat, Int.reduceLT, Int.reduceLE, Int.reduceEq, Int.reduceNe, Int.reduceNeg, ustrA, ti80, ti83, ti122, mi122, cf, Tryz.results76]
      simp only [zW, zX, zD, builtinA, isLeaf, const1, Nat.reduceAdd, Nat.reduceMul, Nat.reduceSub, Nat.reduceLT, Nat.reduceLeDiff, Nat.reduceEqDiff, Nat.reduceBEq, Nat.reduceBNe, reduceIte, reduceCtorEq, Int.reduceToNat, Int.reduceLT, Int.reduceLE, Int.reduceEq, Int.reduceNe, Int.reduceNeg, ustrA, ti80, ti83, ti122, mi122, cf, Tryz.results76, s2, m2, q1, hmu, hgv, hgk]
      refine wpO_callv _ _ _ _ _ _ _ _ _ _ _ _ _ _ _ ?_
      simp only [zW, zX, zD, builtinA, isLeaf, const1, Nat.reduceAdd, Nat.reduceMul, Nat.reduceSub, Nat.reduceLT, Nat.reduceLeDiff, Nat.reduceEqDiff, Nat.reduceBEq, Nat.reduceBNe, reduceIte, reduceCtorEq, Int.reduceToNat, Int.reduceLT, Int.reduceLE, Int.reduceEq, Int.reduceNe, Int.reduceNeg, ustrA, ti80, ti83, ti122, mi122, cf, Tryz.results76]
      refine ⟨by kernel_rfl, callO_intro (by simpa only [List.nil_append, List.cons_append] using hadd) ?_⟩
      rintro r A3 ⟨h3, f3, g3⟩
      have hrs : rowN ((A ++ [Box.cells [.str p.1, .str p.2]]).set im (.mapb (esN (ns ++ [p])))) i = rowN (A ++ [Box.cells [.str p.1, .str p.2]]) i := rowN_set _ n1
      have hlen : ((A ++ [Box.cells [.str p.1, .str p.2]]).set im (.mapb (esN (ns ++ [p])))).length = (A ++ [Box.cells [.str p.1, .str p.2]]).length := by simp
      have hle := f3.1
      rw [hlen] at hle g3
      simp only [zW, zX, zD, builtinA, isLeaf, const1, Nat.reduceAdd, Nat.reduceMul, Nat.reduceSub, Nat.reduceLT, Nat.reduceLeDiff, Nat.reduceEqDiff, Nat.reduceBEq, Nat.reduceBNe, reduceIte, reduceCtorEq, Int.reduceToNat, Int.reduceLT, Int.reduceLE, Int.reduceEq, Int.reduceNe, Int.reduceNeg, ustrA, ti80, ti83, ti122, mi122, cf, Tryz.results76]
      refine ⟨⟨h3, ⟨by omega, ?_⟩, ⟨by omega, ?_⟩, ⟨by omega, ?_⟩, h1.ne⟩, f1.trans ((FrL.setm n1 _).trans f3)⟩
      · rw [g3 im m1 (Ne.symm n1) (by rw [hrs]; exact Ne.symm r1), getD_set_self m1]
      · rw [g3 is s1 n2 (by rw [hrs]; exact Ne.symm r2), getD_set_ne' (Ne.symm n3)]; exact s2
      · rw [g3 iv v1 n4 (by rw [hrs]; exact Ne.symm r3), hgv]
    · have hin : decide (p ∈ ns) = true := by
        rcases hd : decide (p ∈ ns) with _ | _
        · have := q3.mpr (by simpa using hd); cases this
        · rfl
      have e : addN ns p = ns := by unfold addN; rw [if_pos (by simpa using hin)]
      have q4 : w = .bool true := by rw [← hin]; exact q2
      subst q4
      rw [e]
      refine acalls_enterK (cf := cf 13 [0, 1, 2, 3, 7]) foll Tryz.func76 Tryz.ntmps76 (by simp [cf]) ?_
      simp only [Tryz.f76, EnterK_some, zW, zX, zD, builtinA, isLeaf, const1, Nat.reduceAdd, Nat.reduceMul, Nat.reduceSub, Nat.reduceLT, Nat.reduceLeDiff, Nat.reduceEqDiff, Nat.reduceBEq, Nat.reduceBNe, reduceIte, reduceCtorEq, Int.reduceToNat, Int.reduceLT, Int.reduceLE, Int.reduceEq, Int.reduceNe, Int.reduceNeg, ustrA, ti80, ti83, ti122, mi122, cf, Tryz.results76]
      simp only [zW, zX, zD, builtinA, isLeaf, const1, Nat.reduceAdd, Nat.reduceMul, Nat.reduceSub, Nat.reduceLT, Nat.reduceLeDiff, Nat.reduceEqDiff, Nat.reduceBEq, Nat.reduceBNe, reduceIte, reduceCtorEq, Int.reduceToNat, Int.reduceLT, Int.reduceLE, Int.reduceEq, Int.reduceNe, Int.reduceNeg, ustrA, ti80, ti83, ti122, mi122, cf, Tryz.results76, s2, m2, q1]
      exact ⟨h1, f1⟩

theorem fold_nms : ∀ (v : VT) (ns : List Nm), foldV (fun p ns => addN ns p) v ns = nmsV ns v
  | .num, ns => rfl
  | .nm m k, ns => rfl
  | .fn a b, ns => by rw [foldV, nmsV, fold_nms a, fold_nms b]

set_option maxRecDepth 100000 in
theorem impl_once (A : List Box) (f : FuncId) (i : Nat) : ACalls Tryz.prog 46 [.func (.func f) [] [.ptr i 0]] A (fun r A' => r = .func (.func 76) [] [.ptr (A.length + 2) 0, .ptr A.length 0] ∧ A' = A ++ [.cells [.func (.func f) [] [.ptr i 0]], .mapb [], .cells [.map (A.length + 1)]]) := by
  refine acalls_enterK (cf := cf 6 [0, 1, 2, 3]) foll Tryz.func46 Tryz.ntmps46 (by simp [cf]) ?_
  simp only [Tryz.f46, EnterK_some, zW, zX, zD, builtinA, isLeaf, const1, Nat.reduceAdd, Nat.reduceMul, Nat.reduceSub, Nat.reduceLT, Nat.reduceLeDiff, Nat.reduceEqDiff, Nat.reduceBEq, Nat.reduceBNe, reduceIte, reduceCtorEq, Int.reduceToNat, Int.reduceLT, Int.reduceLE, Int.reduceEq, Int.reduceNe, Int.reduceNeg, ustrA, ti80, ti122, cf, Tryz.results46]
  rfl

theorem metP {name : String} {gs : VT → FuncId} (h : Met name gs) (v : VT) : methP Tryz.prog (vT v) name := by unfold methP; rw [h.find v]; rfl

theorem toTy_inj'N : ∀ {v v' : VT}, toTy v = toTy v' → v = v'
  | .num, .num, _ => rfl
  | .num, .nm _ _, h => by simp [toTy] at h
  | .num, .fn _ _, h => by simp [toTy] at h
  | .nm _ _, .num, h => by simp [toTy] at h
  | .nm _ _, .fn _ _, h => by simp [toTy] at h
  | .fn _ _, .num, h => by simp [toTy] at h
  | .fn _ _, .nm _ _, h => by simp [toTy] at h
  | .nm m n, .nm m' n', h => by simp [toTy] at h; rw [h.1, h.2]
  | .fn a b, .fn a' b', h => by
    simp [toTy] at h
    rw [toTy_inj'N h.1, toTy_inj'N h.2]

/-- the list of names lies in one new box, all else that is new is forgotten -/
def NmsNew (A : List Box) (ns : List Nm) (r : AV) (A' : List Box) : Prop :=
  ∃ B, A' = A ++ B ∧ ((r = .nils ∧ ns = []) ∨ ∃ j, r = .own j ∧ A.length ≤ j ∧ A'.getD j .dead = .gr none 4 (nrows ns)) ∧ ∀ b ∈ B, ifreeB b = true
theorem nrows_free (ns : List Nm) : (nrows ns).all ifrees = true := by
  rw [List.all_eq_true]
  intro r hr
  rw [nrows, encs_map, List.map_map] at hr
  obtain ⟨p, _, rfl⟩ := List.mem_map.1 hr
  simp [nty_enc, ifrees, ifree]
theorem nmsNew_of {A A' : List Box} {ns : List Nm} {r : AV} (hl : A.length ≤ A'.length) (hf : ∀ k, k < A.length → A'.getD k .dead = A.getD k .dead)
    (h : (r = .nils ∧ ns = []) ∨ ∃ j, r = .own j ∧ A.length ≤ j ∧ A'.getD j .dead = .gr none 4 (nrows ns)) : ∃ keep, NmsNew A ns r (only keep A') := by
  have go : ∀ (keep : Nat → Bool), (∀ k, k < A.length → keep k = true) → (∀ k, A.length ≤ k → keep k = true → ifreeB (A'.getD k .dead) = true) →
      ((r = .nils ∧ ns = []) ∨ ∃ j, r = .own j ∧ A.length ≤ j ∧ (only keep A').getD j .dead = .gr none 4 (nrows ns)) → NmsNew A ns r (only keep A') := fun keep h1 h2 h3 => by
    have e := split_front (A := A) (A' := only keep A') (by rw [only_length]; exact hl) (fun k hk => by rw [only_getD, if_pos (h1 k hk)]; exact hf k hk)
    refine ⟨_, e, h3, fun b hb => ?_⟩
    obtain ⟨i, hi, rfl⟩ := List.mem_iff_getElem.1 hb
    rw [List.getElem_drop]
    have hi2 : A.length + i < (only keep A').length := by simp at hi; omega
    have e2 : (only keep A')[A.length + i] = (only keep A').getD (A.length + i) .dead := by simp [List.getD, hi2]
    rw [e2, only_getD]
    split
    · rename_i hk; exact h2 _ (by omega) hk
    · rfl
  rcases h with h | ⟨j, rfl, hj, hb⟩
  · refine ⟨fun k => decide (k < A.length), go _ (fun k hk => by simpa using hk) (fun k h1 h2 => by simp at h2; omega) (.inl h)⟩
  · refine ⟨fun k => decide (k < A.length) || decide (k = j), go _ (fun k hk => by simp [hk]) (fun k h1 h2 => ?_) (.inr ⟨j, rfl, hj, by rw [only_getD, if_pos (by simp)]; exact hb⟩)⟩
    simp at h2
    rcases h2 with h2 | rfl
    · omega
    · rw [hb]; exact nrows_free ns

noncomputable def nmsOf (τ : Ty) : List Nm := open Classical in if h : ∃ v, τ = toTy v ∧ VOk v then nmsV [] h.choose else []
theorem nmsOf_toTy {v : VT} (hv : VOk v) : nmsOf (toTy v) = nmsV [] v := by
  have h : ∃ u, toTy v = toTy u ∧ VOk u := ⟨v, rfl, hv⟩
  unfold nmsOf
  rw [dif_pos h]
  have := h.choose_spec.1
  rw [← toTy_inj'N this]
theorem nmsOf_bad {τ : Ty} (h : validB τ = false) : nmsOf τ = [] := by
  unfold nmsOf
  rw [dif_neg]
  rintro ⟨v, rfl, hv⟩
  rw [validB_toTy hv] at h; cases h

theorem ownR_names {A : List Box} : ∀ ns : List Nm, OwnR A (ns.map nty) (nrows ns) []
  | [] => by simp [nrows, encs, OwnR]
  | p :: ns => by
    have e : nrows (p :: ns) = nty_row p :: nrows ns := by simp [nrows, encs, nty_enc]
    rw [List.map_cons, OwnR, e]
    exact ⟨_, _, [], [], rfl, rfl, by rw [nty, ownT_mk]; exact ⟨.slice [], rfl, .inr (.inl ⟨rfl, rfl, rfl⟩)⟩, ownR_names ns⟩

set_option maxRecDepth 100000 in
theorem impl_TypeNames (τ : Ty) (A : List Box) : ACalls Tryz.prog 17 [.agg (enc τ)] A (fun r A' => NmsNew A (nmsOf τ) r A') := by
  refine ACalls.only (ACalls.grow ?_)
  refine acalls_enterK (cf := cf 21 [0, 1, 2, 3, 4, 5, 12]) foll Tryz.func17 Tryz.ntmps17 (by simp [cf]) ?_
  simp only [Tryz.f17, EnterK_some, zW, zX, zD, builtinA, isLeaf, const1, Nat.reduceAdd, Nat.reduceMul, Nat.reduceSub, Nat.reduceLT, Nat.reduceLeDiff, Nat.reduceEqDiff, Nat.reduceBEq, Nat.reduceBNe, reduceIte, reduceCtorEq, Int.reduceToNat, Int.reduceLT, Int.reduceLE, Int.reduceEq, Int.reduceNe, Int.reduceNeg, ustrA, ti31, ti33, ca45, ca46, cf, Tryz.results17]
  simp only [enc_take]
  refine ⟨by rw [enc_length]; omega, ?_⟩
  refine callK_intro (by simp only [zW, zX, zD, builtinA, isLeaf, const1, Nat.reduceAdd, Nat.reduceMul, Nat.reduceSub, Nat.reduceLT, Nat.reduceLeDiff, Nat.reduceEqDiff, Nat.reduceBEq, Nat.reduceBNe, reduceIte, reduceCtorEq, Int.reduceToNat, Int.reduceLT, Int.reduceLE, Int.reduceEq, Int.reduceNe, Int.reduceNeg, ustrA, frzL_enc, Option.map_some]; rfl) (impl_readType τ _) ?_ rfl
  rintro r A' ⟨⟨v, rfl, hv, rfl⟩ | ⟨hv, rfl⟩, rfl⟩
  · simp only [zW, zX, zD, builtinA, isLeaf, const1, Nat.reduceAdd, Nat.reduceMul, Nat.reduceSub, Nat.reduceLT, Nat.reduceLeDiff, Nat.reduceEqDiff, Nat.reduceBEq, Nat.reduceBNe, reduceIte, reduceCtorEq, Int.reduceToNat, Int.reduceLT, Int.reduceLE, Int.reduceEq, Int.reduceNe, Int.reduceNeg, ustrA, ti31, ti33, ca45, ca46, cf, Tryz.results17]
    have hon := impl_once (A ++ [Box.cells (enc (toTy v)), .cells [.nils]]) 47 (A.length + 1)
    have hN : NamI A.length (A.length + 1) (A.length + 3) (A.length + 4) (A.length + 2) [] (A ++ [Box.cells (enc (toTy v)), .cells [.nils], .cells [.func (.func 47) [] [.ptr (A.length + 1) 0]], .mapb [], .cells [.map (A.length + 3)]]) := by
      have g : ∀ k b, ([Box.cells (enc (toTy v)), .cells [.nils], .cells [.func (.func 47) [] [.ptr (A.length + 1) 0]], .mapb [], .cells [.map (A.length + 3)]] : List Box).getD k .dead = b → (A ++ [Box.cells (enc (toTy v)), .cells [.nils], .cells [.func (.func 47) [] [.ptr (A.length + 1) 0]], .mapb [], .cells [.map (A.length + 3)]]).getD (A.length + k) .dead = b := fun k b h => by
        rw [Abs.getD_append_right (by omega), show A.length + k - A.length = k by omega]; exact h
      refine ⟨⟨⟨by omega, by simp⟩, by intro q hq; simp at hq, .nils, g 1 _ rfl, .inl ⟨rfl, rfl⟩, ?_, by simp⟩, ⟨by simp, g 3 _ rfl⟩, ⟨by simp, g 4 _ rfl⟩, ⟨by simp, g 2 _ rfl⟩, by omega, by omega, by omega, by omega, by omega, by omega⟩
      unfold rowN
      rw [g 1 _ rfl]
      simp
    have hea := eachG (once_vis A.length (A.length + 1) (A.length + 3) (A.length + 4) (A.length + 2)) v [] _ hv.ok (by have := hv.cnt; simp; omega) hN
    simp only [List.length_append, List.length_cons, List.length_nil, List.append_assoc, List.cons_append, List.nil_append, Nat.add_assoc, Nat.reduceAdd] at hon
    rw [fold_nms] at hea
    refine .inr (drawM_intro [6] .done [(false, 0, 1), (false, 0, 0), (true, 0, 0), (false, 0, 1), (false, 0, 1), (false, 0, 1), (true, 1, 1)] [A ++ [Box.cells (enc (toTy v)), .cells [.nils]], A ++ [Box.cells (enc (toTy v)), .cells [.nils], .cells [.func (.func 47) [] [.ptr (A.length + 1) 0]], .mapb [], .cells [.map (A.length + 3)]]] 2 7 rfl (by kernel_rfl) (by kernel_rfl) ?_)
    simp only [zW, zX, zD, builtinA, isLeaf, const1, Nat.reduceAdd, Nat.reduceMul, Nat.reduceSub, Nat.reduceLT, Nat.reduceLeDiff, Nat.reduceEqDiff, Nat.reduceBEq, Nat.reduceBNe, reduceIte, reduceCtorEq, Int.reduceToNat, Int.reduceLT, Int.reduceLE, Int.reduceEq, Int.reduceNe, Int.reduceNeg, ustrA, ti31, ti33, ca45, ca46, cf, Tryz.results17, wpMG_cons, wpMG_nil, wpY_done_eq, wpG_makeFunc, List.take_succ_cons, List.take_zero, List.drop_succ_cons, List.drop_zero, List.nil_append, List.map_cons, List.map_nil, List.size_toArray, List.length_nil]
    refine callEO_intro hon ?_ rfl
    simp only [zW, zX, zD, builtinA, isLeaf, const1, Nat.reduceAdd, Nat.reduceMul, Nat.reduceSub, Nat.reduceLT, Nat.reduceLeDiff, Nat.reduceEqDiff, Nat.reduceBEq, Nat.reduceBNe, reduceIte, reduceCtorEq, Int.reduceToNat, Int.reduceLT, Int.reduceLE, Int.reduceEq, Int.reduceNe, Int.reduceNeg, ustrA, ti31, ti33, ca45, ca46, cf, Tryz.results17, wpMG_cons, wpMG_nil, wpY_done_eq, wpG_makeFunc, notNil, List.take_succ_cons, List.take_zero, List.drop_succ_cons, List.drop_zero, List.nil_append, List.cons_append, List.append_nil, List.map_cons, List.map_nil, List.size_toArray, List.length_nil, List.length_cons]
    refine ⟨metP (gs := (pickF 150 157 124)) (met3 (by kernel_rfl) (by kernel_rfl) (by kernel_rfl) (by kernel_rfl) (by kernel_rfl) (by kernel_rfl)) v, metP (gs := (pickF 150 157 124)) (met3 (by kernel_rfl) (by kernel_rfl) (by kernel_rfl) (by kernel_rfl) (by kernel_rfl) (by kernel_rfl)) v, ?_⟩
    refine wpO_invoke _ _ _ _ _ _ _ _ _ _ _ _ _ _ _ _ ?_
    simp only [zW, zX, zD, builtinA, isLeaf, const1, Nat.reduceAdd, Nat.reduceMul, Nat.reduceSub, Nat.reduceLT, Nat.reduceLeDiff, Nat.reduceEqDiff, Nat.reduceBEq, Nat.reduceBNe, reduceIte, reduceCtorEq, Int.reduceToNat, Int.reduceLT, Int.reduceLE, Int.reduceEq, Int.reduceNe, Int.reduceNeg, ustrA, ti31, ti33, ca45, ca46, cf, Tryz.results17]
    refine meth_invK (met3 (by kernel_rfl) (by kernel_rfl) (by kernel_rfl) (by kernel_rfl) (by kernel_rfl) (by kernel_rfl)) hea rfl (fun _ => rfl) ?_
    rintro r A2 ⟨hN2, hF2⟩
    obtain ⟨⟨l1, l2⟩, ho, r0, k1, k2, k3, k4⟩ := hN2.lst
    have hfr : ∀ k, k < A.length → A2.getD k .dead = A.getD k .dead := fun k hk => by
      have e : rowN (A ++ [Box.cells (enc (toTy v)), .cells [.nils], .cells [.func (.func 47) [] [.ptr (A.length + 1) 0]], .mapb [], .cells [.map (A.length + 3)]]) (A.length + 1) = A.length + 1 := by
        unfold rowN
        rw [Abs.getD_append_right (by omega), show A.length + 1 - A.length = 1 by omega]
        rfl
      rw [hF2.2.2 k (by simp; omega) (by omega) (by omega) (by rw [e]; omega), Abs.getD_append_left hk]
    simp only [zW, zX, zD, builtinA, isLeaf, const1, Nat.reduceAdd, Nat.reduceMul, Nat.reduceSub, Nat.reduceLT, Nat.reduceLeDiff, Nat.reduceEqDiff, Nat.reduceBEq, Nat.reduceBNe, reduceIte, reduceCtorEq, Int.reduceToNat, Int.reduceLT, Int.reduceLE, Int.reduceEq, Int.reduceNe, Int.reduceNeg, ustrA, ti31, ti33, ca45, ca46, cf, Tryz.results17]
    refine ⟨[[], [], A2], rfl, ?_⟩
    simp only [zW, zX, zD, builtinA, isLeaf, const1, Nat.reduceAdd, Nat.reduceMul, Nat.reduceSub, Nat.reduceLT, Nat.reduceLeDiff, Nat.reduceEqDiff, Nat.reduceBEq, Nat.reduceBNe, reduceIte, reduceCtorEq, Int.reduceToNat, Int.reduceLT, Int.reduceLE, Int.reduceEq, Int.reduceNe, Int.reduceNeg, ustrA, ti31, ti33, ca45, ca46, cf, Tryz.results17, wpMG_nil, wpY_done_eq, List.drop_succ_cons, List.drop_zero, k1]
    have hlen : A.length ≤ A2.length := by have := hF2.1; simp at this; omega
    rw [nmsOf_toTy hv]
    rcases k2 with ⟨rfl, hns⟩ | ⟨j, rfl, hj, hA⟩
    · exact .inl (nmsNew_of hlen hfr (.inl ⟨rfl, hns⟩))
    · have hjr : rowN A2 (A.length + 1) = j := by unfold rowN; rw [k1]
      refine .inr ⟨j, 4, nrows (nmsV [] v), hA, nmsNew_of (by simpa using hlen) (fun k hk => by rw [getD_set_ne' (by omega)]; exact hfr k hk) (.inr ⟨j, rfl, by omega, getD_set_self hj⟩)⟩
  · simp only [zW, zX, zD, builtinA, isLeaf, const1, Nat.reduceAdd, Nat.reduceMul, Nat.reduceSub, Nat.reduceLT, Nat.reduceLeDiff, Nat.reduceEqDiff, Nat.reduceBEq, Nat.reduceBNe, reduceIte, reduceCtorEq, Int.reduceToNat, Int.reduceLT, Int.reduceLE, Int.reduceEq, Int.reduceNe, Int.reduceNeg, ustrA, ti31, ti33, ca45, ca46, cf, Tryz.results17]
    rw [nmsOf_bad hv]
    exact .inl (nmsNew_of (by simp) (fun k hk => Abs.getD_append_left hk) (.inl ⟨rfl, rfl⟩))

end Go.Proofs.YtmgppdedcciogaaGreat
