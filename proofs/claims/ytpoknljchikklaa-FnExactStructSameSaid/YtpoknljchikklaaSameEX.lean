/- The program's ExprSame answers whether two expressions are the same tree. -/
import Derived.Test.YtpoknljchikklaaSameAX
import Derived.Test.YtpoknljchikklaaAbsW3
set_option linter.unusedVariables false
set_option linter.unusedSimpArgs false
namespace Go.Proofs.Ytpoknljchikklaa
open Go.Abs
theorem tc_new' (A : List Box) : ACalls Try.prog 24 [] A (fun r A' => r = .agg [tF1, tF2, .map (A.length + 1)] ∧ A' = A ++ [.cells [tF1, tF2, .map (A.length + 1)], .mapb []]) := tc_new A
end Go.Proofs.Ytpoknljchikklaa
namespace Go.Proofs.Ytpoknljchikklaa.SX
open Go.Abs

set_option maxRecDepth 100000 in
theorem xc_new (it : Nat) (A : List Box) : ACalls Try.prog 29 [.agg [tF1, tF2, .map it]] A (fun r A' => r = .agg [xF1, xF2 A.length, .map (A.length + 2)] ∧ A' = A ++ [.cells [tF1, tF2, .map it], .cells [xF1, xF2 A.length, .map (A.length + 2)], .mapb []]) := by
  simp only [xF1, xF2]
  refine acalls_enterK (cf := cf 10 [0, 1, 2, 3, 4]) foll Try.func29 Try.ntmps29 (by simp [cf]) ?_
  simp only [Try.f29, EnterK_some, zW, zX, zD, builtinA, isLeaf, const1, Nat.reduceAdd, Nat.reduceMul, Nat.reduceSub, Nat.reduceLT, Nat.reduceLeDiff, Nat.reduceEqDiff, Nat.reduceBEq, Nat.reduceBNe, reduceIte, reduceCtorEq, Int.reduceToNat, Int.reduceLT, Int.reduceLE, Int.reduceEq, Int.reduceNe, Int.reduceNeg, ustrA, ti60, ti75, ti77, cf, Try.results29]
  exact ⟨rfl, rfl⟩

theorem argL_lists (t : IEx) : ∀ x ∈ lists t, ∀ u ∈ x.ks, ∀ z ∈ argL u, z ∈ argL t := by
  induction t using IEx.ind with
  | h k q m n a b o ks ih =>
    cases ks with
    | nil => simp [lists]
    | cons t ks =>
      intro x hx u hu z hz
      rw [lists_eq (t := .mk k q m n a b o (t :: ks)) (x := ⟨b, o, t, ks⟩) rfl] at hx
      rcases List.mem_cons.1 hx with rfl | hx
      · exact argL_below (t := .mk k q m n a b o (t :: ks)) (x := ⟨b, o, t, ks⟩) rfl hu z hz
      · obtain ⟨v, hv, hxv⟩ := listss_mem.1 hx
        exact argL_below (t := .mk k q m n a b o (t :: ks)) (x := ⟨b, o, t, ks⟩) rfl hv z (ih v hv x hxv u hu z hz)

set_option maxRecDepth 100000 in
theorem impl_ExprSameI {U : List LL} (hU : Univ U) (hN : U.length ≤ 100000000) (hL : ∀ x ∈ U, x.ks.length ≤ 1000000000) (a0 b0 : IEx) (ha : ∀ x, below a0 = some x → x ∈ U) (hb : ∀ x, below b0 = some x → x ∈ U)
    {UT : List tLL} (hUT : TUs UT) (hTU : ∀ x ∈ U, ∀ t ∈ x.ks, TU UT (argX t)) (hTa : TU UT (argX a0)) (hTb : TU UT (argX b0)) (A : List Box) :
    ACalls Try.prog 17 [.agg (encI a0), .agg (encI b0)] A (fun r A' => r = .bool (decide (erase a0 = erase b0)) ∧ A' = A) := by
  have hc0 : ClS U [] := ⟨[], ⟨by simp, by simp, by simp⟩, by simp⟩
  have hct : tClS UT [] := ⟨[], ⟨by simp, by simp, by simp⟩, by simp⟩
  have g : ∀ k b, ([Box.cells (encI a0), .cells (encI b0), .cells [tF1, tF2, .map (A.length + 3)], .mapb [], .cells [tF1, tF2, .map (A.length + 3)], .cells [xF1, xF2 (A.length + 4), .map (A.length + 6)], .mapb []] : List Box).getD k .dead = b → (A ++ [Box.cells (encI a0), .cells (encI b0), .cells [tF1, tF2, .map (A.length + 3)], .mapb [], .cells [tF1, tF2, .map (A.length + 3)], .cells [xF1, xF2 (A.length + 4), .map (A.length + 6)], .mapb []]).getD (A.length + k) .dead = b := fun k b h => by
    rw [Abs.getD_append_right (by omega), show A.length + k - A.length = k by omega]; exact h
  have hsm := sameI hU hN hL a0 b0 ha hb hUT hTU hTa hTb (A.length + 6) [] hc0 (A.length + 3) (A.length + 4) [] hct (A ++ [Box.cells (encI a0), .cells (encI b0), .cells [tF1, tF2, .map (A.length + 3)], .mapb [], .cells [tF1, tF2, .map (A.length + 3)], .cells [xF1, xF2 (A.length + 4), .map (A.length + 6)], .mapb []]) (by simp) (g 6 _ rfl) (by simp) (by simp) (by omega) (by omega) (by omega) (g 3 _ rfl) (g 4 _ rfl)
  have htc := tc_new' (A ++ [Box.cells (encI a0), .cells (encI b0)])
  have hxc := xc_new (A.length + 3) (A ++ [Box.cells (encI a0), .cells (encI b0), .cells [tF1, tF2, .map (A.length + 3)], .mapb []])
  simp only [List.length_append, List.length_cons, List.length_nil, List.append_assoc, List.cons_append, List.nil_append, Nat.add_assoc, Nat.reduceAdd] at htc hxc
  refine acalls_enter (cf := cf 10 [0, 1, 2, 3, 4]) foll Try.func17 Try.ntmps17 (by simp [cf]) ?_
  simp only [Try.f17, EnterK_some, zW, zX, zD, builtinA, isLeaf, const1, Nat.reduceAdd, Nat.reduceMul, Nat.reduceSub, Nat.reduceLT, Nat.reduceLeDiff, Nat.reduceEqDiff, Nat.reduceBEq, Nat.reduceBNe, reduceIte, reduceCtorEq, Int.reduceToNat, Int.reduceLT, Int.reduceLE, Int.reduceEq, Int.reduceNe, Int.reduceNeg, ustrA, ti40, ca24, ca29, ca35, cf, Try.results17]
  refine .inr (drawM_intro [4] .done [(true, 0, 0), (true, 1, 1), (false, 0, 2), (false, 0, 2), (true, 2, 2), (false, 3, 3)] [A ++ [.cells (encI a0), .cells (encI b0)], A ++ [.cells (encI a0), .cells (encI b0), .cells [tF1, tF2, .map (A.length + 3)], .mapb []], A ++ [.cells (encI a0), .cells (encI b0), .cells [tF1, tF2, .map (A.length + 3)], .mapb [], .cells [tF1, tF2, .map (A.length + 3)], .cells [xF1, xF2 (A.length + 4), .map (A.length + 6)], .mapb []]] 3 6 rfl (by kernel_rfl) (by kernel_rfl) ?_)
  simp only [zW, zX, zD, builtinA, isLeaf, const1, Nat.reduceAdd, Nat.reduceMul, Nat.reduceSub, Nat.reduceLT, Nat.reduceLeDiff, Nat.reduceEqDiff, Nat.reduceBEq, Nat.reduceBNe, reduceIte, reduceCtorEq, Int.reduceToNat, Int.reduceLT, Int.reduceLE, Int.reduceEq, Int.reduceNe, Int.reduceNeg, ustrA, ti40, ca24, ca29, ca35, cf, Try.results17, wpMG_cons, wpMG_nil, wpY_done_eq, List.take_succ_cons, List.take_zero, List.drop_succ_cons, List.drop_zero]
  refine callEO_intro htc ?_ rfl
  simp only [zW, zX, zD, builtinA, isLeaf, const1, Nat.reduceAdd, Nat.reduceMul, Nat.reduceSub, Nat.reduceLT, Nat.reduceLeDiff, Nat.reduceEqDiff, Nat.reduceBEq, Nat.reduceBNe, reduceIte, reduceCtorEq, Int.reduceToNat, Int.reduceLT, Int.reduceLE, Int.reduceEq, Int.reduceNe, Int.reduceNeg, ustrA, ti40, ca24, ca29, ca35, cf, Try.results17, wpMG_cons, wpMG_nil, wpY_done_eq, encI_take, List.take_succ_cons, List.take_zero, List.drop_succ_cons, List.drop_zero]
  refine callEO_intro hxc ?_ rfl
  simp only [zW, zX, zD, builtinA, isLeaf, const1, Nat.reduceAdd, Nat.reduceMul, Nat.reduceSub, Nat.reduceLT, Nat.reduceLeDiff, Nat.reduceEqDiff, Nat.reduceBEq, Nat.reduceBNe, reduceIte, reduceCtorEq, Int.reduceToNat, Int.reduceLT, Int.reduceLE, Int.reduceEq, Int.reduceNe, Int.reduceNeg, ustrA, ti40, ca24, ca29, ca35, cf, Try.results17, wpMG_cons, wpMG_nil, wpY_done_eq, encI_take, List.take_succ_cons, List.take_zero, List.drop_succ_cons, List.drop_zero]
  refine ⟨by rw [encI_length]; omega, by rw [encI_length]; omega, by rw [encI_length]; omega, by rw [encI_length]; omega, ?_⟩
  refine callO_intro hsm ?_
  rintro r A2 ⟨m', mt', rfl, rfl, _⟩
  refine ⟨[[], [], [], _], rfl, ?_⟩
  have hS : ∀ (X Y : Box) (L : List Box), ((A ++ L).set (A.length + 6) X).set (A.length + 3) Y = A ++ (L.set 6 X).set 3 Y := fun X Y L => by rw [set_app, set_app]
  rw [hS]
  simp only [zW, zX, zD, builtinA, isLeaf, const1, Nat.reduceAdd, Nat.reduceMul, Nat.reduceSub, Nat.reduceLT, Nat.reduceLeDiff, Nat.reduceEqDiff, Nat.reduceBEq, Nat.reduceBNe, reduceIte, reduceCtorEq, Int.reduceToNat, Int.reduceLT, Int.reduceLE, Int.reduceEq, Int.reduceNe, Int.reduceNeg, ustrA, ti40, ca24, ca29, ca35, cf, Try.results17, wpMG_nil, wpY_done_eq, List.drop_succ_cons, List.drop_zero]


theorem impl_ExprSame (a b : Ex) (ha : szX a ≤ 10000000) (hb : szX b ≤ 10000000) (A : List Box) :
    ACalls Try.prog 17 [.agg (encX a), .agg (encX b)] A (fun r A' => r = .bool (decide (a = b)) ∧ A' = A) := by
  intro G w base xs hH hx
  have hx' := hx
  obtain ⟨x, y, hxy, h1, h2⟩ := hx.two
  cases h1 with
  | agg _ us hus huc huh =>
    cases h2 with
    | agg _ vs hvs hvc hvh =>
      have la := encX_length a
      have lb := encX_length b
      obtain ⟨s, e1, n1, t1, k1, m1⟩ := annot (G := G) (w := w) a (fun j => us.getD j undef) fun j hj => huh j (by omega)
      obtain ⟨t, e2, n2, t2, k2, m2⟩ := annot (G := G) (w := w) b (fun j => vs.getD j undef) fun j hj => hvh j (by omega)
      have hU : Univ (lists s ++ lists t) := by
        refine ⟨fun p hp q hq he => ?_, fun p hp u hu z hz => ?_⟩
        · have okp : LLok G w p := (List.mem_append.1 hp).elim (k1 p) (k2 p)
          have okq : LLok G w q := (List.mem_append.1 hq).elim (k1 q) (k2 q)
          exact okp.inj okq he
        · rcases List.mem_append.1 hp with h | h
          · exact List.mem_append_left _ (lists_down s p h u hu z hz)
          · exact List.mem_append_right _ (lists_down t p h u hu z hz)
      have hN : (lists s ++ lists t).length ≤ 100000000 := by
        have q1 := lists_len s
        have q2 := lists_len t
        rw [e1] at q1
        rw [e2] at q2
        rw [List.length_append]; omega
      have hL : ∀ z ∈ lists s ++ lists t, z.ks.length ≤ 1000000000 := fun z hz => by
        rcases List.mem_append.1 hz with h | h
        · have := lists_ks z s h; rw [e1] at this; omega
        · have := lists_ks z t h; rw [e2] at this; omega
      have hs : ∀ z, below s = some z → z ∈ lists s ++ lists t := fun z hz => List.mem_append_left _ (by rw [lists_eq hz]; simp)
      have ht : ∀ z, below t = some z → z ∈ lists s ++ lists t := fun z hz => List.mem_append_right _ (by rw [lists_eq hz]; simp)
      have hUT : TUs (argL s ++ argL t) := by
        refine ⟨⟨fun p hp q hq he => ?_, fun p hp u hu z hz => ?_⟩, ?_, fun z hz => ?_⟩
        · exact tLLok_inj ((List.mem_append.1 hp).elim (m1 p) (m2 p)) ((List.mem_append.1 hq).elim (m1 q) (m2 q)) he
        · rcases List.mem_append.1 hp with h | h
          · exact List.mem_append_left _ (argL_down s p h u hu z hz)
          · exact List.mem_append_right _ (argL_down t p h u hu z hz)
        · have q1 := argL_len s
          have q2 := argL_len t
          rw [e1] at q1
          rw [e2] at q2
          rw [List.length_append]; omega
        · rcases List.mem_append.1 hz with h | h
          · have := argL_ks z s h; rw [e1] at this; omega
          · have := argL_ks z t h; rw [e2] at this; omega
      have hTa : TU (argL s ++ argL t) (argX s) := ⟨fun x hx => List.mem_append_left _ (argL_own s x (tLists_top hx))⟩
      have hTb : TU (argL s ++ argL t) (argX t) := ⟨fun x hx => List.mem_append_right _ (argL_own t x (tLists_top hx))⟩
      have hTU : ∀ x ∈ lists s ++ lists t, ∀ u ∈ x.ks, TU (argL s ++ argL t) (argX u) := fun x hx u hu => ⟨fun z hz => by
        have hz' := argL_own u z (tLists_top hz)
        rcases List.mem_append.1 hx with h | h
        · exact List.mem_append_left _ (argL_lists s x h u hu z hz')
        · exact List.mem_append_right _ (argL_lists t x h u hu z hz')⟩
      have key := impl_ExprSameI hU hN hL s t hs ht hUT hTU hTa hTb A
      rw [e1, e2] at key
      refine key G w base xs hH ?_
      rw [hxy]
      refine .cons (.agg _ us (by rw [encI_length]; omega) huc fun j hj => t1 j (by rw [encI_length] at hj; exact hj)) (.cons (.agg _ vs (by rw [encI_length]; omega) hvc fun j hj => t2 j (by rw [encI_length] at hj; exact hj)) .nil)
end Go.Proofs.Ytpoknljchikklaa.SX

