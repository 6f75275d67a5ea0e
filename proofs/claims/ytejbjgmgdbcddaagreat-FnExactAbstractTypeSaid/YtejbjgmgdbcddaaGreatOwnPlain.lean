/- What the program's method plain makes: a type that is owned. -/
import Derived.Test.YtejbjgmgdbcddaaGreatAbsW3
import Derived.Test.YtejbjgmgdbcddaaGreatTypesMeth
import Derived.Test.YtejbjgmgdbcddaaGreatOwnTy
set_option linter.unusedVariables false
set_option linter.unusedSimpArgs false
namespace Go.Proofs.YtejbjgmgdbcddaaGreat
open Go.Abs

def isFn : VT → Bool
  | .fn _ _ => true
  | _ => false
def plen : VT → Nat
  | .fn a b => 3 + plen a + plen b
  | _ => 2
/-- the cells of what plain hands back, where its boxes begin at n; nest: a list of kids that is nil stays so -/
def prow : VT → Nat → Bool → List AV
  | .num, n, nest => [.int .i64 1, .str [], .str [], bif nest then .nils else .slice []]
  | .nm m k, n, nest => [.int .i64 3, .str m, .str k, bif nest then .nils else .slice []]
  | .fn a b, n, nest => [.int .i64 2, .str [], .str [], .own (n + (2 + plen a + plen b))]
/-- the boxes that plain leaves -/
def pbox : VT → Nat → List Box
  | .num, n => [.cells [], .cells [.int .i64 1, .str [], .str [], .nils]]
  | .nm m k, n => [.cells [.str m, .str k], .cells [.int .i64 3, .str m, .str k, .nils]]
  | .fn a b, n => .cells [.iface (vT a) (vX a), .iface (vT b) (vX b)] :: .cells [.int .i64 2, .str [], .str [], .own (n + (2 + plen a + plen b))] :: (pbox a (n + 2) ++ (pbox b (n + 2 + plen a) ++
      [.gr none 4 [prow a (n + 2) (isFn a || isFn b), prow b (n + 2 + plen a) (isFn a || isFn b)]]))
def pidx : VT → Nat → List Nat
  | .fn a b, n => (n + (2 + plen a + plen b)) :: (pidx a (n + 2) ++ pidx b (n + 2 + plen a))
  | _, _ => []
theorem pbox_length : ∀ v n, (pbox v n).length = plen v
  | .num, n => rfl
  | .nm _ _, n => rfl
  | .fn a b, n => by simp [pbox, plen, pbox_length a, pbox_length b]; omega
theorem pidx_in : ∀ v n, ∀ i ∈ pidx v n, n ≤ i ∧ i < n + plen v
  | .num, n => by simp [pidx]
  | .nm _ _, n => by simp [pidx]
  | .fn a b, n => by
    intro i hi
    simp only [pidx, List.mem_cons, List.mem_append] at hi
    simp only [plen]
    rcases hi with rfl | hi | hi
    · omega
    · have := pidx_in a _ i hi; omega
    · have := pidx_in b _ i hi; omega
theorem pidx_nodup : ∀ v n, (pidx v n).Nodup
  | .num, n => by simp [pidx]
  | .nm _ _, n => by simp [pidx]
  | .fn a b, n => by
    simp only [pidx, List.nodup_cons, List.mem_append, not_or]
    refine ⟨⟨fun h => ?_, fun h => ?_⟩, List.nodup_append.2 ⟨pidx_nodup a _, pidx_nodup b _, fun x hx y hy => ?_⟩⟩
    · have := pidx_in a _ _ h; omega
    · have := pidx_in b _ _ h; omega
    · have := pidx_in a _ _ hx; have := pidx_in b _ _ hy; omega

theorem prow_length (v : VT) (n : Nat) (b : Bool) : (prow v n b).length = 4 := by cases v <;> rfl
theorem prow_leaf (v : VT) (n : Nat) (h : isFn v = false) : ∀ x ∈ prow v n false, isLeaf x = true := by
  cases v with
  | num => simp [prow, isLeaf]
  | nm => simp [prow, isLeaf]
  | fn => cases h
theorem prow_elem (v : VT) (n : Nat) (b : Bool) : ∀ x ∈ prow v n b, isElem x = true := by
  cases v <;> cases b <;> simp [prow, isElem, isLeaf]
theorem tail_app (A : List Box) (x y : Box) (P Q : List Box) (z : Box) : A ++ x :: y :: (P ++ (Q ++ [z])) = (A ++ x :: y :: (P ++ Q)) ++ [z] := by simp
theorem pbox_top (x y : VT) (n : Nat) (B C : List Box) (h : B.length = n) : (B ++ pbox (.fn x y) n ++ C).getD (n + (2 + plen x + plen y)) .dead = .gr none 4 [prow x (n + 2) (isFn x || isFn y), prow y (n + 2 + plen x) (isFn x || isFn y)] := by
  have hl := pbox_length (.fn x y) n
  simp only [plen] at hl
  rw [Abs.getD_append_left (by rw [List.length_append]; omega), Abs.getD_append_right (by omega), h, show n + (2 + plen x + plen y) - n = (plen x + plen y) + 1 + 1 by omega]
  simp only [pbox, List.getD_cons_succ]
  rw [Abs.getD_append_right (by rw [pbox_length]; omega), pbox_length, show plen x + plen y - plen x = plen y by omega, Abs.getD_append_right (by rw [pbox_length]; omega), pbox_length, Nat.sub_self]
  rfl
theorem own_plain : ∀ (v : VT) (n : Nat) (nest : Bool) (L : List Box), (∀ k, k < plen v → L.getD (n + k) .dead = (pbox v n).getD k .dead) → OwnT L (toTy v) (prow v n nest) (pidx v n)
  | .num, n, nest, L, h => by
    rw [toTy, ownT_mk]
    cases nest
    · exact ⟨.slice [], rfl, .inr (.inl ⟨rfl, rfl, rfl⟩)⟩
    · exact ⟨.nils, rfl, .inl ⟨rfl, rfl, rfl⟩⟩
  | .nm m k, n, nest, L, h => by
    rw [toTy, ownT_mk]
    cases nest
    · exact ⟨.slice [], rfl, .inr (.inl ⟨rfl, rfl, rfl⟩)⟩
    · exact ⟨.nils, rfl, .inl ⟨rfl, rfl, rfl⟩⟩
  | .fn a b, n, nest, L, h => by
    rw [toTy, ownT_mk]
    have ha := own_plain a (n + 2) (isFn a || isFn b) L fun k hk => by
      have := h (2 + k) (by simp [plen]; omega)
      rw [show n + 2 + k = n + (2 + k) by omega, this]
      simp only [pbox]
      rw [show 2 + k = k + 1 + 1 by omega, List.getD_cons_succ, List.getD_cons_succ, Abs.getD_append_left (by rw [pbox_length]; exact hk)]
    have hb := own_plain b (n + 2 + plen a) (isFn a || isFn b) L fun k hk => by
      have := h (2 + plen a + k) (by simp [plen]; omega)
      rw [show n + 2 + plen a + k = n + (2 + plen a + k) by omega, this]
      simp only [pbox]
      rw [show 2 + plen a + k = (plen a + k) + 1 + 1 by omega, List.getD_cons_succ, List.getD_cons_succ, Abs.getD_append_right (by rw [pbox_length]; omega), pbox_length,
        show plen a + k - plen a = k by omega, Abs.getD_append_left (by rw [pbox_length]; exact hk)]
    refine ⟨.own (n + (2 + plen a + plen b)), rfl, .inr (.inr ⟨_, [prow a (n + 2) (isFn a || isFn b), prow b (n + 2 + plen a) (isFn a || isFn b)], _, rfl, rfl, ?_, ?_⟩)⟩
    · rw [h (2 + plen a + plen b) (by rw [plen]; omega)]
      simp only [pbox]
      rw [show 2 + plen a + plen b = (plen a + plen b) + 1 + 1 by omega, List.getD_cons_succ, List.getD_cons_succ, Abs.getD_append_right (by rw [pbox_length]; omega), pbox_length,
        show plen a + plen b - plen a = plen b by omega, Abs.getD_append_right (by rw [pbox_length]; omega), pbox_length, Nat.sub_self]
      rfl
    · rw [OwnR]
      refine ⟨_, _, _, _, rfl, rfl, ha, ?_⟩
      rw [OwnR]
      exact ⟨_, _, pidx b (n + 2 + plen a), [], rfl, by simp, hb, by simp [OwnR]⟩

theorem meth_invE {own : FuncId → Bool} {name : String} {gs : VT → FuncId} {v : VT} {args : List AV} {x : AV} {N : Nat} {ops : Array Oper} {T : Ranks} {As : Nat → List Box} {Q : Env → Prop} {k : Nat} {rest : List Oper} {d : Option Tmp} {e : Env}
    (hm : Met name gs) (h : ACalls Tryz.prog (gs v) (vX v :: args) (As (T.lo k)) (fun v' A' => v' = x ∧ A' = As (T.next k (T.lo k)))) (hr : T.lo k = T.hi k)
    (hk : wpG Tryz.prog own N ops T As Q (k + 1) rest (putA N d x e)) : InvE Tryz.prog own N ops T As Q k name (.iface (vT v) (vX v)) args rest d e :=
  ⟨gs v, hm.find v, hm.call v, callEO_intro h hk hr⟩

def PlainM (v : VT) : Prop := ∀ A, ACalls Tryz.prog ((pickF 113 120 106) v) [vX v] A (fun r A' => r = .agg (prow v A.length true) ∧ A' = A ++ pbox v A.length)

set_option maxRecDepth 100000 in
theorem num_plain : PlainM .num := fun A => by
  show ACalls Tryz.prog 113 _ _ _
  rw [vX]
  refine acalls_enterK (cf := cf 4 [0, 2]) foll Tryz.func113 Tryz.ntmps113 (by simp [cf]) ?_
  simp only [Tryz.f113, EnterK_some, zW, zX, zD, builtinA, isLeaf, const1, ustrA, simprocAttr, ti42, ti116, cf, Tryz.results113]
  exact ⟨rfl, rfl⟩

set_option maxRecDepth 100000 in
theorem name_plain (m k : List UInt8) : PlainM (.nm m k) := fun A => by
  show ACalls Tryz.prog 106 _ _ _
  rw [vX]
  refine acalls_enterK (cf := cf 8 [0, 1, 2]) foll Tryz.func106 Tryz.ntmps106 (by simp [cf]) ?_
  simp only [Tryz.f106, EnterK_some, zW, zX, zD, builtinA, isLeaf, const1, ustrA, simprocAttr, ti9, ti42, ti101, cf, Tryz.results106]
  exact ⟨rfl, rfl⟩

set_option maxRecDepth 100000 in
theorem fun_plain (a b : VT) (ha : PlainM a) (hb : PlainM b) : PlainM (.fn a b) := fun A => by
  show ACalls Tryz.prog 120 _ _ _
  rw [vX]
  refine ACalls.grow ?_
  have ea : (pbox a (A.length + 2)).length = plen a := pbox_length _ _
  have eb : (pbox b (A.length + 2 + plen a)).length = plen b := pbox_length _ _
  have ca : ACalls Tryz.prog ((pickF 113 120 106) a) [vX a] (A ++ [Box.cells [.iface (vT a) (vX a), .iface (vT b) (vX b)], Box.cells [.int .i64 0, .str [], .str [], .nils]]) (fun r A' => r = .agg (prow a (A.length + 2) true) ∧ A' = A ++ (Box.cells [.iface (vT a) (vX a), .iface (vT b) (vX b)] :: Box.cells [.int .i64 0, .str [], .str [], .nils] :: pbox a (A.length + 2))) := by
    have := ha (A ++ [Box.cells [.iface (vT a) (vX a), .iface (vT b) (vX b)], Box.cells [.int .i64 0, .str [], .str [], .nils]])
    simpa using this
  have cb : ACalls Tryz.prog ((pickF 113 120 106) b) [vX b] (A ++ (Box.cells [.iface (vT a) (vX a), .iface (vT b) (vX b)] :: Box.cells [.int .i64 0, .str [], .str [], .nils] :: pbox a (A.length + 2))) (fun r A' => r = .agg (prow b (A.length + 2 + plen a) true) ∧ A' = A ++ (Box.cells [.iface (vT a) (vX a), .iface (vT b) (vX b)] :: Box.cells [.int .i64 0, .str [], .str [], .nils] :: (pbox a (A.length + 2) ++ pbox b (A.length + 2 + plen a)))) := by
    have := hb (A ++ (Box.cells [.iface (vT a) (vX a), .iface (vT b) (vX b)] :: Box.cells [.int .i64 0, .str [], .str [], .nils] :: pbox a (A.length + 2)))
    have hl : (A ++ (Box.cells [.iface (vT a) (vX a), .iface (vT b) (vX b)] :: Box.cells [.int .i64 0, .str [], .str [], .nils] :: pbox a (A.length + 2))).length = A.length + 2 + plen a := by simp [ea]; omega
    rw [hl] at this
    simpa using this
  have hl2 : (A ++ (Box.cells [.iface (vT a) (vX a), .iface (vT b) (vX b)] :: Box.cells [.int .i64 0, .str [], .str [], .nils] :: (pbox a (A.length + 2) ++ pbox b (A.length + 2 + plen a)))).length = A.length + (2 + plen a + plen b) := by simp [ea, eb]; omega
  cases hf : (isFn a || isFn b) with
  | false =>
    have fz : ∀ B, frzs [.agg (prow a (A.length + 2) true), .agg (prow b (A.length + 2 + plen a) true)] B = some ([.agg (prow a (A.length + 2) false), .agg (prow b (A.length + 2 + plen a) false)], B) := by
      intro B
      cases a <;> cases b <;> simp [isFn] at hf <;> rfl
    have la : (prow a (A.length + 2) false).length = 4 := prow_length _ _ _
    have lb : (prow b (A.length + 2 + plen a) false).length = 4 := prow_length _ _ _
    refine acalls_enterK (cf := cf 11 [0, 1, 2]) foll Tryz.func120 Tryz.ntmps120 (by simp [cf]) ?_
    simp only [Tryz.f120, EnterK_some, zW, zX, zD, builtinA, isLeaf, const1, ustrA, simprocAttr, ti40, ti42, ti92, ti124, cf, Tryz.results120]
    refine .inr (drawE_intro [(false, 0, 0), (false, 0, 0), (true, 0, 0), (false, 0, 1), (false, 0, 1), (true, 1, 1), (true, 2, 2), (false, 3, 3), (true, 3, 3)] [A ++ [Box.cells [.iface (vT a) (vX a), .iface (vT b) (vX b)], Box.cells [.int .i64 0, .str [], .str [], .nils]], A ++ (Box.cells [.iface (vT a) (vX a), .iface (vT b) (vX b)] :: Box.cells [.int .i64 0, .str [], .str [], .nils] :: pbox a (A.length + 2)), A ++ (Box.cells [.iface (vT a) (vX a), .iface (vT b) (vX b)] :: Box.cells [.int .i64 0, .str [], .str [], .nils] :: (pbox a (A.length + 2) ++ pbox b (A.length + 2 + plen a))), A ++ (Box.cells [.iface (vT a) (vX a), .iface (vT b) (vX b)] :: Box.cells [.int .i64 0, .str [], .str [], .nils] :: (pbox a (A.length + 2) ++ (pbox b (A.length + 2 + plen a) ++ [.row 4 [prow a (A.length + 2) false, prow b (A.length + 2 + plen a) false] 0]))), A ++ (Box.cells [.iface (vT a) (vX a), .iface (vT b) (vX b)] :: Box.cells [.int .i64 2, .str [], .str [], .own (A.length + (2 + plen a + plen b))] :: (pbox a (A.length + 2) ++ (pbox b (A.length + 2 + plen a) ++ [.row 4 [prow a (A.length + 2) false, prow b (A.length + 2 + plen a) false] 0])))] 4 rfl (by kernel_rfl) (by kernel_rfl) (by kernel_rfl) (by kernel_rfl) (by kernel_rfl) (by kernel_rfl) ?_)
    simp only [zW, zX, zD, builtinA, isLeaf, const1, ustrA, simprocAttr, ti40, ti42, ti92, ti124, cf, Tryz.results120]
    refine wpG_invoke _ _ _ _ _ _ _ _ _ _ _ _ _ _ _ _ _ _ ?_
    simp only [zW, zX, zD, builtinA, isLeaf, const1, ustrA, simprocAttr, ti40, ti42, ti92, ti124, cf, Tryz.results120]
    refine meth_invE (met3 (by kernel_rfl) (by kernel_rfl) (by kernel_rfl) (by kernel_rfl) (by kernel_rfl) (by kernel_rfl)) ca rfl ?_
    simp only [zW, zX, zD, builtinA, isLeaf, const1, ustrA, simprocAttr, ti40, ti42, ti92, ti124, cf, Tryz.results120]
    refine wpG_invoke _ _ _ _ _ _ _ _ _ _ _ _ _ _ _ _ _ _ ?_
    simp only [zW, zX, zD, builtinA, isLeaf, const1, ustrA, simprocAttr, ti40, ti42, ti92, ti124, cf, Tryz.results120]
    refine meth_invE (met3 (by kernel_rfl) (by kernel_rfl) (by kernel_rfl) (by kernel_rfl) (by kernel_rfl) (by kernel_rfl)) cb rfl ?_
    simp only [zW, zX, zD, builtinA, isLeaf, const1, ustrA, simprocAttr, ti40, ti42, ti92, ti124, cf, Tryz.results120, fz, la, lb, hl2]
    refine ⟨⟨prow_leaf a _ (by simp at hf; exact hf.1), prow_leaf b _ (by simp at hf; exact hf.2)⟩, .inr ⟨A.length + (2 + plen a + plen b), 4, [prow a (A.length + 2) false, prow b (A.length + 2 + plen a) false], ?_, rfl, ?_⟩⟩
    · rw [tail_app A _ _ (pbox a (A.length + 2)) (pbox b (A.length + 2 + plen a)) _, Abs.getD_append_right (by simp [ea, eb]; omega)]
      simp [ea, eb]
      rw [show A.length + (2 + plen a + plen b) - (A.length + (plen a + plen b + 1 + 1)) = 0 by omega]
      rfl
    · rw [tail_app A _ _ (pbox a (A.length + 2)) (pbox b (A.length + 2 + plen a)) _, List.set_append_right _ _ (by simp [ea, eb]; omega)]
      simp [ea, eb]
      rw [show A.length + (2 + plen a + plen b) - (A.length + (plen a + plen b + 1 + 1)) = 0 by omega]
      simp [pbox, hf]
  | true =>
    have fz : frzs [.agg (prow a (A.length + 2) true), .agg (prow b (A.length + 2 + plen a) true)] (A ++ (Box.cells [.iface (vT a) (vX a), .iface (vT b) (vX b)] :: Box.cells [.int .i64 0, .str [], .str [], .nils] :: (pbox a (A.length + 2) ++ pbox b (A.length + 2 + plen a)))) = none := by
      have hb2 : ∀ B C : List Box, B.length = A.length + 2 + plen a → isFn b = true → frzC (.agg (prow b (A.length + 2 + plen a) true)) (B ++ pbox b (A.length + 2 + plen a) ++ C) = none := fun B C hB h => by
        cases b with
        | num => cases h
        | nm => cases h
        | fn x y =>
          have hg : (B ++ pbox (.fn x y) (A.length + 2 + plen a) ++ C).getD (A.length + 2 + plen a + (2 + plen x + plen y)) .dead = .gr none 4 [prow x (A.length + 2 + plen a + 2) (isFn x || isFn y), prow y (A.length + 2 + plen a + 2 + plen x) (isFn x || isFn y)] := pbox_top _ _ _ _ _ hB
          simp only [prow, frzC, frzL, frz1, hg]
          rfl
      have ha2 : ∀ B C : List Box, B.length = A.length + 2 → frzC (.agg (prow a (A.length + 2) true)) (B ++ pbox a (A.length + 2) ++ C) = if isFn a = true then none else some (.agg (prow a (A.length + 2) false), (B ++ pbox a (A.length + 2) ++ C)) := fun B C hB => by
        cases a with
        | num => rfl
        | nm => rfl
        | fn x y =>
          have hg : (B ++ pbox (.fn x y) (A.length + 2) ++ C).getD (A.length + 2 + (2 + plen x + plen y)) .dead = .gr none 4 [prow x (A.length + 2 + 2) (isFn x || isFn y), prow y (A.length + 2 + 2 + plen x) (isFn x || isFn y)] := pbox_top _ _ _ _ _ hB
          simp only [prow, frzC, frzL, frz1, hg]
          rfl
      have e1 : (A ++ (Box.cells [.iface (vT a) (vX a), .iface (vT b) (vX b)] :: Box.cells [.int .i64 0, .str [], .str [], .nils] :: (pbox a (A.length + 2) ++ pbox b (A.length + 2 + plen a)))) = (A ++ [Box.cells [.iface (vT a) (vX a), .iface (vT b) (vX b)], Box.cells [.int .i64 0, .str [], .str [], .nils]]) ++ pbox a (A.length + 2) ++ pbox b (A.length + 2 + plen a) := by simp
      rw [e1]
      simp only [frzs]
      rw [ha2 _ _ (by simp)]
      by_cases h : isFn a = true
      · rw [if_pos h]
      · rw [if_neg h]
        have hb1 : isFn b = true := by simp [h] at hf; exact hf
        have := hb2 ((A ++ [Box.cells [.iface (vT a) (vX a), .iface (vT b) (vX b)], Box.cells [.int .i64 0, .str [], .str [], .nils]]) ++ pbox a (A.length + 2)) [] (by simp [ea]; omega) hb1
        rw [List.append_nil] at this
        simp only [this]
    have la : (prow a (A.length + 2) true).length = 4 := prow_length _ _ _
    have lb : (prow b (A.length + 2 + plen a) true).length = 4 := prow_length _ _ _
    refine acalls_enterK (cf := cf 11 [0, 1, 2]) foll Tryz.func120 Tryz.ntmps120 (by simp [cf]) ?_
    simp only [Tryz.f120, EnterK_some, zW, zX, zD, builtinA, isLeaf, const1, ustrA, simprocAttr, ti40, ti42, ti92, ti124, cf, Tryz.results120]
    refine .inr (drawE_intro [(false, 0, 0), (false, 0, 0), (true, 0, 0), (false, 0, 1), (false, 0, 1), (true, 1, 1), (true, 2, 2), (false, 3, 3), (true, 3, 3)] [A ++ [Box.cells [.iface (vT a) (vX a), .iface (vT b) (vX b)], Box.cells [.int .i64 0, .str [], .str [], .nils]], A ++ (Box.cells [.iface (vT a) (vX a), .iface (vT b) (vX b)] :: Box.cells [.int .i64 0, .str [], .str [], .nils] :: pbox a (A.length + 2)), A ++ (Box.cells [.iface (vT a) (vX a), .iface (vT b) (vX b)] :: Box.cells [.int .i64 0, .str [], .str [], .nils] :: (pbox a (A.length + 2) ++ pbox b (A.length + 2 + plen a))), A ++ (Box.cells [.iface (vT a) (vX a), .iface (vT b) (vX b)] :: Box.cells [.int .i64 0, .str [], .str [], .nils] :: (pbox a (A.length + 2) ++ (pbox b (A.length + 2 + plen a) ++ [.gr none 4 [prow a (A.length + 2) true, prow b (A.length + 2 + plen a) true]]))), A ++ (Box.cells [.iface (vT a) (vX a), .iface (vT b) (vX b)] :: Box.cells [.int .i64 2, .str [], .str [], .own (A.length + (2 + plen a + plen b))] :: (pbox a (A.length + 2) ++ (pbox b (A.length + 2 + plen a) ++ [.gr none 4 [prow a (A.length + 2) true, prow b (A.length + 2 + plen a) true]])))] 4 rfl (by kernel_rfl) (by kernel_rfl) (by kernel_rfl) (by kernel_rfl) (by kernel_rfl) (by kernel_rfl) ?_)
    simp only [zW, zX, zD, builtinA, isLeaf, const1, ustrA, simprocAttr, ti40, ti42, ti92, ti124, cf, Tryz.results120]
    refine wpG_invoke _ _ _ _ _ _ _ _ _ _ _ _ _ _ _ _ _ _ ?_
    simp only [zW, zX, zD, builtinA, isLeaf, const1, ustrA, simprocAttr, ti40, ti42, ti92, ti124, cf, Tryz.results120]
    refine meth_invE (met3 (by kernel_rfl) (by kernel_rfl) (by kernel_rfl) (by kernel_rfl) (by kernel_rfl) (by kernel_rfl)) ca rfl ?_
    simp only [zW, zX, zD, builtinA, isLeaf, const1, ustrA, simprocAttr, ti40, ti42, ti92, ti124, cf, Tryz.results120]
    refine wpG_invoke _ _ _ _ _ _ _ _ _ _ _ _ _ _ _ _ _ _ ?_
    simp only [zW, zX, zD, builtinA, isLeaf, const1, ustrA, simprocAttr, ti40, ti42, ti92, ti124, cf, Tryz.results120]
    refine meth_invE (met3 (by kernel_rfl) (by kernel_rfl) (by kernel_rfl) (by kernel_rfl) (by kernel_rfl) (by kernel_rfl)) cb rfl ?_
    simp only [zW, zX, zD, builtinA, isLeaf, const1, ustrA, simprocAttr, ti40, ti42, ti92, ti124, cf, Tryz.results120, fz, la, lb, hl2]
    refine ⟨⟨prow_elem a _ _, prow_elem b _ _⟩, .inl ⟨rfl, ?_⟩⟩
    simp [pbox, hf]

theorem plainM : ∀ v, PlainM v
  | .num => num_plain
  | .nm m k => name_plain m k
  | .fn a b => fun_plain a b (plainM a) (plainM b)
end Go.Proofs.YtejbjgmgdbcddaaGreat
