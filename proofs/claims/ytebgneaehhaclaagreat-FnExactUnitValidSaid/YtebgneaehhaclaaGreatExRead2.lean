/- The program's reading of expressions, put together. -/
import Derived.Test.YtebgneaehhaclaaGreatExRead
import Derived.Test.YtebgneaehhaclaaGreatFrk
set_option linter.unusedVariables false
set_option linter.unusedSimpArgs false
namespace Go.Proofs.YtebgneaehhaclaaGreat
open Go.Abs

theorem set_same {A : List Box} {i : Nat} {X : Box} (hi : i < A.length) (h : A.getD i .dead = X) : A.set i X = A := by
  apply List.ext_getElem?
  intro k
  by_cases hk : i = k
  · subst hk
    rw [List.getElem?_set_self hi]
    have : A[i]? = some A[i] := List.getElem?_eq_getElem hi
    simp [List.getD, hi] at h
    rw [this, h]
  · rw [List.getElem?_set_ne hk]
theorem set_set_app {A L : List Box} {i : Nat} {X Y : Box} (hi : i < A.length) : (A.set i X ++ L).set i Y = A.set i Y ++ L := by
  rw [List.set_append_left _ _ (by simpa using hi), List.set_set]
theorem set_app {A L : List Box} {i : Nat} {Y : Box} (hi : i < A.length) : (A ++ L).set i Y = A.set i Y ++ L := by
  rw [List.set_append_left _ _ hi]

theorem headX_val (k i : Int) (m n : List UInt8) (t : Ty) (vs : List VE) : (headX k i m n t vs).1 = .nili ∨ ∃ T y, (headX k i m n t vs).1 = .iface T y := by
  unfold headX
  repeat' split
  all_goals first | exact .inl rfl | exact .inr ⟨_, _, rfl⟩
theorem readX_val (x : Ex) (d c : Int) : (readX x d c).1.1 = .nili ∨ ∃ T y, (readX x d c).1.1 = .iface T y := by
  cases x with
  | mk k i m n t ks =>
    rw [readX]
    split
    · exact .inl rfl
    · split
      · exact .inl rfl
      · unfold fin
        split
        · exact .inl rfl
        · split
          · exact headX_val _ _ _ _ _ _
          · exact .inl rfl
theorem readXs_app (d : Int) : ∀ (l l' : List Ex) (c : Int), readXs (l ++ l') d c = match (readXs l d c).1 with
    | none => (none, (readXs l d c).2)
    | some vs => ((readXs l' d (readXs l d c).2).1.map (vs ++ ·), (readXs l' d (readXs l d c).2).2)
  | [], l', c => by simp [readXs]
  | x :: l, l', c => by
    rw [List.cons_append, readXs, readXs, readXs_app d l l' _]
    unfold next
    cases (readX x d c).1.2 with
    | none => rfl
    | some v =>
      simp only
      cases (readXs l d (readX x d c).2).1 with
      | none => rfl
      | some vs =>
        simp only
        cases (readXs l' d (readXs l d (readX x d c).2).2).1 <;> simp
theorem readXs_step {ks : List Ex} {d c : Int} {i : Nat} {vs : List VE} {ci : Int} (hi : i < ks.length) (h : readXs (ks.take i) d c = (some vs, ci)) :
    readXs (ks.take (i + 1)) d c = ((readX (ks.getD i ex0) d ci).1.2.map fun v => vs ++ [v], (readX (ks.getD i ex0) d ci).2) := by
  rw [ex_take hi, readXs_app, h]
  simp only [readXs, next]
  cases (readX (ks.getD i ex0) d ci).1.2 <;> simp
theorem readXs_stop {ks : List Ex} {d c : Int} {i : Nat} {ci : Int} (hi : i ≤ ks.length) (h : readXs (ks.take i) d c = (none, ci)) : readXs ks d c = (none, ci) := by
  have e : ks = ks.take i ++ ks.drop i := (List.take_append_drop i ks).symm
  rw [e, readXs_app, h]

def NodeX (x : Ex) : Prop := ∀ (ir : Nat) (c d : Int) (A : List Box), ir < A.length → A.getD ir .dead = .cells [.int .i64 c] → 0 ≤ c → c ≤ 400 → 1 ≤ d → d ≤ 41 →
  ACalls Tryz.prog 107 [.ptr ir 0, .agg (encX x), .int .i64 d] A (fun r A' => r = .tuple [(readX x d c).1.1, .bool (readX x d c).1.2.isSome] ∧ A' = A.set ir (.cells [.int .i64 (readX x d c).2]))
/-- the boxes that the reader and its function hold -/
structure Rd (ir jr jd : Nat) (c d : Int) (A : List Box) : Prop where
  lr : ir < A.length
  lj : jr < A.length
  ld : jd < A.length
  nr : ir ≠ jr
  nd : ir ≠ jd
  gc : A.getD ir .dead = .cells [.int .i64 c]
  gr : A.getD jr .dead = .cells [.ptr ir 0]
  gd : A.getD jd .dead = .cells [.int .i64 d]
theorem Rd.app {ir jr jd : Nat} {c d : Int} {A : List Box} (h : Rd ir jr jd c d A) (L : List Box) : Rd ir jr jd c d (A ++ L) :=
  ⟨by have := h.lr; simp; omega, by have := h.lj; simp; omega, by have := h.ld; simp; omega, h.nr, h.nd, by rw [Abs.getD_append_left h.lr]; exact h.gc, by rw [Abs.getD_append_left h.lj]; exact h.gr, by rw [Abs.getD_append_left h.ld]; exact h.gd⟩
theorem Rd.set {ir jr jd : Nat} {c d : Int} {A : List Box} (h : Rd ir jr jd c d A) (c' : Int) : Rd ir jr jd c' d (A.set ir (.cells [.int .i64 c'])) :=
  ⟨by have := h.lr; simpa, by have := h.lj; simpa, by have := h.ld; simpa, h.nr, h.nd, getD_set1 h.lr, by rw [Go.Abs.getD_set_ne' h.nr]; exact h.gr, by rw [Go.Abs.getD_set_ne' h.nd]; exact h.gd⟩

set_option maxRecDepth 100000 in
theorem node_clos (x : Ex) (hx : NodeX x) (ir jr jd : Nat) (c d : Int) (A : List Box) (h : Rd ir jr jd c d A) (h0 : 0 ≤ c) (h1 : c ≤ 400) (h2 : 0 ≤ d) (h3 : d ≤ 40) :
    ACalls Tryz.prog 132 [.agg (encX x), .ptr jr 0, .ptr jd 0] A (fun r A' => r = .tuple [(readX x (d + 1) c).1.1, .bool (readX x (d + 1) c).1.2.isSome] ∧ A' = A.set ir (.cells [.int .i64 (readX x (d + 1) c).2])) := by
  have hw : IntKind.i64.wrap (d + 1) = d + 1 := wrap64 (by omega) (by omega)
  have hA := h.app [.cells (encX x)]
  have hgr := hA.gr
  have hgd := hA.gd
  have hir := h.lr
  have hn := hx ir c (d + 1) _ hA.lr hA.gc h0 h1 (by omega) (by omega)
  have hv := readX_val x (d + 1) c
  generalize hq : readX x (d + 1) c = q at *
  obtain ⟨⟨v, o⟩, c'⟩ := q
  simp only at hv hn ⊢
  have ho : Outer A (A.set ir (.cells [.int .i64 c'])) := outer_set0 A ir _ rfl
  rcases hv with rfl | ⟨T, y, rfl⟩
  · refine acalls_enter (cf := cf 13 [0, 1, 2, 3, 4, 5]) foll Tryz.func132 Tryz.ntmps132 (by simp [cf]) ?_
    simp only [Tryz.f132, EnterK_some, zW, zX, zD, builtinA, isLeaf, const1, ustrA, simprocAttr, ti3, ti54, ti266, ca107, cf, Tryz.results132]
    simp only [zW, zX, zD, builtinA, isLeaf, const1, ustrA, simprocAttr, ti3, ti54, ti266, ca107, cf, Tryz.results132, hgr, hgd, hw, encX_length, encX_take]
    refine callK_intro (by simp only [zW, zX, zD, builtinA, isLeaf, const1, ustrA, simprocAttr, frzL_encX, Option.map_some] <;> rfl) (hn) ?_ rfl
    rintro r A' ⟨rfl, rfl⟩
    simp only [zW, zX, zD, builtinA, isLeaf, const1, ustrA, simprocAttr, ti3, ti54, ti266, ca107, cf, Tryz.results132, set_app hir]
    try exact outer_set A _ ir _ rfl
  · refine acalls_enter (cf := cf 13 [0, 1, 2, 3, 4, 5]) foll Tryz.func132 Tryz.ntmps132 (by simp [cf]) ?_
    simp only [Tryz.f132, EnterK_some, zW, zX, zD, builtinA, isLeaf, const1, ustrA, simprocAttr, ti3, ti54, ti266, ca107, cf, Tryz.results132]
    simp only [zW, zX, zD, builtinA, isLeaf, const1, ustrA, simprocAttr, ti3, ti54, ti266, ca107, cf, Tryz.results132, hgr, hgd, hw, encX_length, encX_take]
    refine callK_intro (by simp only [zW, zX, zD, builtinA, isLeaf, const1, ustrA, simprocAttr, frzL_encX, Option.map_some] <;> rfl) (hn) ?_ rfl
    rintro r A' ⟨rfl, rfl⟩
    simp only [zW, zX, zD, builtinA, isLeaf, const1, ustrA, simprocAttr, ti3, ti54, ti266, ca107, cf, Tryz.results132, set_app hir]
    try exact outer_set A _ ir _ rfl

theorem vrow_step {vs : List VE} {n : Nat} (v : VE) (h : vs.length < n) : (rowsV vs ++ List.replicate (n - vs.length) [AV.nili]).set vs.length (ifE v :: List.drop 1 ((rowsV vs ++ List.replicate (n - vs.length) [AV.nili]).getD vs.length [])) = rowsV (vs ++ [v]) ++ List.replicate (n - (vs.length + 1)) [AV.nili] := by
  obtain ⟨m, rfl⟩ : ∃ m, n = vs.length + (m + 1) := ⟨n - vs.length - 1, by omega⟩
  have e1 : vs.length + (m + 1) - vs.length = m + 1 := by omega
  have e2 : vs.length + (m + 1) - (vs.length + 1) = m := by omega
  rw [e1, e2, List.replicate_succ]
  have hl := rowsV_length vs
  rw [Abs.getD_append_right (by omega), List.set_append_right _ _ (by omega), hl]
  simp [rowsV]

/-- what reading a list answers -/
noncomputable def eachX (ks : List Ex) (most d c : Int) : Option (List VE) × Int := if most < ks.length then (none, c) else readXs ks d c
def outX : Option (List VE) → AV
  | none => .tuple [.slice [], .bool false]
  | some vs => .tuple [.slice (rowsV vs), .bool true]

set_option maxRecDepth 100000 in
set_option maxHeartbeats 1000000 in
theorem impl_readEachX (ks : List Ex) (hks : ks.length ≤ 1048576) (hk : ∀ x ∈ ks, NodeX x) (most : Int) (ir jr jd : Nat) (c d : Int) (A : List Box) (h : Rd ir jr jd c d A) (h0 : 0 ≤ c) (h1 : c ≤ 400) (h2 : 0 ≤ d) (h3 : d ≤ 40) :
    ACalls Tryz.prog 130 [.slice (encXs ks), .int .i64 most, .func (.func 132) [] [.ptr jr 0, .ptr jd 0]] A (fun r A' => r = outX (eachX ks most (d + 1) c).1 ∧ A' = A.set ir (.cells [.int .i64 (eachX ks most (d + 1) c).2])) := by
  have hl := encXs_length ks
  have hir := h.lr
  have hfin : ∀ c', Outer A (A.set ir (.cells [.int .i64 c'])) := fun c' => outer_set0 A ir _ rfl
  have hsm : A.set ir (.cells [.int .i64 c]) = A := set_same hir h.gc
  by_cases hm : most < ks.length
  · have d1 : decide ((ks.length : Int) > most) = true := decide_eq_true hm
    have d1' : decide (most < (ks.length : Int)) = true := decide_eq_true hm
    rw [eachX, if_pos hm, hsm, outX]
    refine acalls_enter (cf := cf 41 [0, 1, 2, 6, 7, 8, 9, 10, 11, 12, 16, 20, 21, 22, 23, 34]) foll Tryz.func130 Tryz.ntmps130 (by simp [cf]) ?_
    simp only [Tryz.f130, EnterK_some, zW, zX, zD, builtinA, isLeaf, const1, ustrA, simprocAttr, ti3, ti52, ti54, ti98, ti268, cf, Tryz.results130]
    simp only [zW, zX, zD, builtinA, isLeaf, const1, ustrA, simprocAttr, ti3, ti52, ti54, ti98, ti268, cf, Tryz.results130, hl, d1, d1']
  · have d1 : decide ((ks.length : Int) > most) = false := decide_eq_false hm
    have d1' : decide (most < (ks.length : Int)) = false := decide_eq_false hm
    rw [eachX, if_neg hm]
    refine acalls_enter (cf := cf 41 [0, 1, 2, 6, 7, 8, 9, 10, 11, 12, 16, 20, 21, 22, 23, 34]) foll Tryz.func130 Tryz.ntmps130 (by simp [cf]) ?_
    simp only [Tryz.f130, EnterK_some, zW, zX, zD, builtinA, isLeaf, const1, ustrA, simprocAttr, ti3, ti52, ti54, ti98, ti268, cf, Tryz.results130]
    simp only [zW, zX, zD, builtinA, isLeaf, const1, ustrA, simprocAttr, ti3, ti52, ti54, ti98, ti268, cf, Tryz.results130, hl, d1, d1']
    refine ⟨⟨by omega, by omega, by omega⟩, ?_⟩
    refine aloop_intro [2, 8, 20, 21, 22] (fun e A' => ∃ (i : Nat) (vs : List VE) (ci : Int) (B : List Box), i ≤ ks.length ∧ vs.length = i ∧ readXs (ks.take i) (d + 1) c = (some vs, ci) ∧ 0 ≤ ci ∧ ci ≤ 400 ∧ e = [(2, .func (.func 132) [] [.ptr jr 0, .ptr jd 0]), (8, .own A.length), (20, .slice (encXs ks)), (21, .int .i64 (ks.length : Nat)), (22, .int .i64 (i : Nat))]
      ∧ A' = A.set ir (.cells [.int .i64 ci]) ++ (.row 1 (rowsV vs ++ List.replicate (ks.length - i) [.nili]) 0 :: B)) (fun e _ => ks.length - (intOf (Abs.look 22 e)).toNat) ?_ ?_
    · refine ⟨0, [], c, [], by omega, rfl, by simp [readXs], h0, h1, rfl, ?_⟩
      rw [hsm]
      simp [rowsV]
    · rintro e A' ⟨i, vs, ci, B, hi, hvl, hrd, hc0, hc1, rfl, rfl⟩
      by_cases hlt : i < ks.length
      · have d2 : decide ((i : Int) < ((ks.length : Nat) : Int)) = true := decide_eq_true (by omega)
        have hg := encXs_getD hlt
        have hmm := ex_mem hlt
        have hstep := readXs_step hlt hrd
        have hi1 : IntKind.i64.wrap ((i : Int) + 1) = ((i + 1 : Nat) : Int) := by rw [wrap64 (by omega) (by omega)]; rfl
        have hof := readX_of (ks.getD i ex0) (d + 1) ci
        have hcl := node_clos (ks.getD i ex0) (hk _ hmm) ir jr jd ci d _ ((h.set ci).app (.row 1 (rowsV vs ++ List.replicate (ks.length - i) [.nili]) 0 :: (B ++ [.cells (encX (ks.getD i ex0))]))) hc0 hc1 h2 h3
        have hv := readX_val (ks.getD i ex0) (d + 1) ci
        generalize hx : ks.getD i ex0 = x at *
        generalize hq : readX x (d + 1) ci = q at *
        obtain ⟨⟨v, o⟩, c'⟩ := q
        simp only at hcl hstep hof hv
        rw [set_set_app hir] at hcl
        simp only [zW, zX, zD, builtinA, isLeaf, const1, ustrA, simprocAttr, ti3, ti52, ti54, ti98, ti268, cf, Tryz.results130, hl, d2, hg, encX_length, encX_take]
        refine ⟨⟨by omega, by omega⟩, ?_⟩
        refine wpO_callv _ _ _ _ _ _ _ _ _ _ _ _ _ _ _ ?_
        simp only [zW, zX, zD, builtinA, isLeaf, const1, ustrA, simprocAttr, ti3, ti52, ti54, ti98, ti268, cf, Tryz.results130, List.nil_append]
        refine ⟨by kernel_rfl, ?_⟩
        refine callK_intro (by simp only [zW, zX, zD, builtinA, isLeaf, const1, ustrA, simprocAttr, frzL_encX, Option.map_some, List.cons_append, List.nil_append] <;> rfl) (hcl) ?_ rfl
        rintro r A' ⟨rfl, rfl⟩
        cases o with
        | some u =>
          obtain ⟨a1, a2, a3, a4, a5⟩ := hof u hc0 rfl
          simp only [Prod.mk.injEq] at a5
          obtain ⟨⟨rfl, _⟩, rfl⟩ := a5
          have hst := vrow_step (vs := vs) (n := ks.length) u (by omega)
          have hlen : (rowsV vs).length + (List.replicate (ks.length - i) [AV.nili]).length = ks.length := by simp [rowsV_length]; omega
          subst hvl
          have hife : ifE u = .iface (vtE u) (vxE u) := rfl
          rw [hife] at hst ⊢
          simp only [zW, zX, zD, builtinA, isLeaf, const1, ustrA, simprocAttr, ti3, ti52, ti54, ti98, ti268, cf, Tryz.results130, hlen, rowsV_length, Option.isSome_some, Bool.not_true, hst, hi1, LoopK_eq]
          refine ⟨⟨by omega, by simp; omega⟩, ⟨by omega, by simp; omega, fun v hv => ?_⟩, ⟨vs.length + 1, vs ++ [u], ci + cntE u, _, by omega, by simp, hstep, by omega, by omega, rfl, rfl⟩, ?_⟩
          · rw [List.mem_singleton.1 hv]
          · simp only [intOf]; omega
        | none =>
          have hall := readXs_stop (by omega) hstep
          rw [hall, outX]
          rcases hv with rfl | ⟨T, y, rfl⟩
          · simp only [zW, zX, zD, builtinA, isLeaf, const1, ustrA, simprocAttr, ti3, ti52, ti54, ti98, ti268, cf, Tryz.results130, Option.isSome_none, Bool.not_false]
            exact outer_set A _ ir _ rfl
          · simp only [zW, zX, zD, builtinA, isLeaf, const1, ustrA, simprocAttr, ti3, ti52, ti54, ti98, ti268, cf, Tryz.results130, Option.isSome_none, Bool.not_false]
            exact outer_set A _ ir _ rfl
      · have d2 : decide ((i : Int) < ((ks.length : Nat) : Int)) = false := decide_eq_false (by omega)
        have e : i = ks.length := by omega
        subst hvl
        rw [e, List.take_length] at hrd
        have hz : List.replicate (ks.length - vs.length) [AV.nili] = [] := by rw [e]; simp
        rw [hrd, outX, hz, List.append_nil]
        simp only [zW, zX, zD, builtinA, isLeaf, const1, ustrA, simprocAttr, ti3, ti52, ti54, ti98, ti268, cf, Tryz.results130, hl, d2]
        exact outer_set A _ ir _ rfl
end Go.Proofs.YtebgneaehhaclaaGreat
