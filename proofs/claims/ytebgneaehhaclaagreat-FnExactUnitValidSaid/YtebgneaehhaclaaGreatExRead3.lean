/- The program's reading of expressions: nodes. -/
import Derived.Test.YtebgneaehhaclaaGreatExRead2
set_option linter.unusedVariables false
set_option linter.unusedSimpArgs false
namespace Go.Proofs.YtebgneaehhaclaaGreat
open Go.Abs

theorem skz_of {T : Ranks} {As : Nat → List Box} {k : Nat} (h : T.eff k = false) : SkZ T As k := fun c _ _ => by simp [Ranks.next, h]

set_option maxRecDepth 100000 in
set_option maxHeartbeats 2000000 in
theorem impl_nodeX (k i : Int) (m n : List UInt8) (t : Ty) (ks : List Ex) (hks : ks.length ≤ 1048576) (hk : ∀ x ∈ ks, NodeX x) : NodeX (.mk k i m n t ks) := by
  intro ir c d A hir hgc h0 h1 h2 h3
  have hfin : ∀ c' L, Outer A (A.set ir (.cells [.int .i64 c']) ++ L) := fun c' L => outer_set A L ir _ rfl
  have hen := impl_enter ir c d (A ++ [.cells [.ptr ir 0], .cells (encX (.mk k i m n t ks)), .cells [.int .i64 d]]) (by simp; omega) (by rw [Abs.getD_append_left hir]; exact hgc) h0 (by omega)
  rw [set_app hir] at hen
  rw [encX] at hen ⊢
  rw [readX]
  generalize hg : (decide (c + 1 ≤ 400) && decide (d ≤ 40)) = g at *
  refine acalls_enter (cf := cf 46 [0, 1, 2, 3, 4, 5, 6, 7, 8, 9, 20, 40]) foll Tryz.func107 Tryz.ntmps107 (by simp [cf]) ?_
  simp only [Tryz.f107, EnterK_some, zW, zX, zD, builtinA, isLeaf, const1, ustrA, simprocAttr, ti3, ti52, ti54, ti98, ti200, ti266, ti268, ca128, ca129, ca130, ca131, ca133, cf, Tryz.results107]
  refine .inr (drawE_intro [(false, 0, 0), (false, 0, 0), (false, 0, 0), (false, 0, 0), (true, 0, 0), (false, 1, 1), (false, 1, 1), (false, 1, 1), (false, 1, 1), (false, 1, 1), (false, 1, 1)] [A ++ [.cells [.ptr ir 0], .cells [.int .i64 k, .int .i64 i, .str m, .str n, .int .i64 t.kind, .str t.mod, .str t.name, .slice (encs t.kids), .slice (encXs ks)], .cells [.int .i64 d]], A.set ir (.cells [.int .i64 (c + 1)]) ++ [.cells [.ptr ir 0], .cells [.int .i64 k, .int .i64 i, .str m, .str n, .int .i64 t.kind, .str t.mod, .str t.name, .slice (encs t.kids), .slice (encXs ks)], .cells [.int .i64 d]]] 1 rfl (by kernel_rfl) (by kernel_rfl) (by kernel_rfl) (by kernel_rfl) (by kernel_rfl) (by kernel_rfl) ?_)
  simp only [zW, zX, zD, builtinA, isLeaf, const1, ustrA, simprocAttr, ti3, ti52, ti54, ti98, ti200, ti266, ti268, ca128, ca129, ca130, ca131, ca133, cf, Tryz.results107]
  refine callE_intro (by simp only [zW, zX, zD, builtinA, isLeaf, const1, ustrA, simprocAttr] <;> rfl) hen ?_ rfl rfl
  cases g with
  | false =>
    rw [if_pos (by simp)]
    simp only [zW, zX, zD, builtinA, isLeaf, const1, ustrA, simprocAttr, ti3, ti52, ti54, ti98, ti200, ti266, ti268, ca128, ca129, ca130, ca131, ca133, cf, Tryz.results107]
    exact ⟨skz_of rfl, skz_of rfl, skz_of rfl, hfin _ _⟩
  | true =>
    simp only [Bool.and_eq_true, decide_eq_true_eq] at hg
    simp only [zW, zX, zD, builtinA, isLeaf, const1, ustrA, simprocAttr, ti3, ti52, ti54, ti98, ti200, ti266, ti268, ca128, ca129, ca130, ca131, ca133, cf, Tryz.results107]
    refine callEN_intro (fun A => by simp only [zW, zX, zD, builtinA, isLeaf, const1, ustrA, simprocAttr, Option.map_some] <;> rfl) (fun A => impl_unusedAreZero k i m n t _ A) ?_ rfl rfl
    cases hz : zeroX k i m n t with
    | false =>
      rw [if_pos (by simp)]
      simp only [zW, zX, zD, builtinA, isLeaf, const1, ustrA, simprocAttr, ti3, ti52, ti54, ti98, ti200, ti266, ti268, ca128, ca129, ca130, ca131, ca133, cf, Tryz.results107]
      exact hfin _ _
    | true =>
      rw [if_neg (by simp)]
      have hfe : (if opc k < ks.length then (((AV.nili, none), c + 1) : (AV × Option VE) × Int) else fin k i m n t (readXs ks (d + 1) (c + 1))) = fin k i m n t (eachX ks (opc k) (d + 1) (c + 1)) := by
        unfold eachX
        split <;> rfl
      rw [hfe]
      have hrd : Rd ir A.length (A.length + 2) (c + 1) d (A.set ir (.cells [.int .i64 (c + 1)]) ++ [.cells [.ptr ir 0], .cells [.int .i64 k, .int .i64 i, .str m, .str n, .int .i64 t.kind, .str t.mod, .str t.name, .slice (encs t.kids), .slice (encXs ks)], .cells [.int .i64 d]]) := by
        refine ⟨by simp; omega, by simp, by simp, by omega, by omega, ?_, ?_, ?_⟩
        · rw [Abs.getD_append_left (by simpa)]; exact getD_set1 hir
        · rw [Abs.getD_append_right (by simp)]; simp
        · rw [Abs.getD_append_right (by simp)]; simp
      have hre := impl_readEachX ks hks hk (opc k) ir A.length (A.length + 2) (c + 1) d _ hrd (by omega) hg.1 (by omega) hg.2
      generalize hq : eachX ks (opc k) (d + 1) (c + 1) = q at *
      obtain ⟨o, cc⟩ := q
      simp only at hre
      rw [set_set_app hir] at hre
      simp only [zW, zX, zD, builtinA, isLeaf, const1, ustrA, simprocAttr, ti3, ti52, ti54, ti98, ti200, ti266, ti268, ca128, ca129, ca130, ca131, ca133, cf, Tryz.results107]
      refine .inr (drawE_intro [(false, 0, 0), (false, 0, 0), (false, 0, 0), (false, 0, 0), (false, 0, 0), (false, 0, 0), (true, 0, 0), (false, 1, 1), (false, 1, 1), (false, 1, 1), (false, 1, 1), (false, 1, 1)] [A.set ir (.cells [.int .i64 (c + 1)]) ++ [.cells [.ptr ir 0], .cells [.int .i64 k, .int .i64 i, .str m, .str n, .int .i64 t.kind, .str t.mod, .str t.name, .slice (encs t.kids), .slice (encXs ks)], .cells [.int .i64 d]], A.set ir (.cells [.int .i64 cc]) ++ [.cells [.ptr ir 0], .cells [.int .i64 k, .int .i64 i, .str m, .str n, .int .i64 t.kind, .str t.mod, .str t.name, .slice (encs t.kids), .slice (encXs ks)], .cells [.int .i64 d]]] 1 rfl (by kernel_rfl) (by kernel_rfl) (by kernel_rfl) (by kernel_rfl) (by kernel_rfl) (by kernel_rfl) ?_)
      simp only [zW, zX, zD, builtinA, isLeaf, const1, ustrA, simprocAttr, ti3, ti52, ti54, ti98, ti200, ti266, ti268, ca128, ca129, ca130, ca131, ca133, cf, Tryz.results107, wpG_makeFunc]
      refine callEN_intro (fun A => by simp only [zW, zX, zD, builtinA, isLeaf, const1, ustrA, simprocAttr, Option.map_some] <;> rfl) (fun A => impl_operandCount k A) ?_ rfl rfl
      simp only [zW, zX, zD, builtinA, isLeaf, const1, ustrA, simprocAttr, ti3, ti52, ti54, ti98, ti200, ti266, ti268, ca128, ca129, ca130, ca131, ca133, cf, Tryz.results107, wpG_makeFunc, List.cons_append, List.nil_append, List.map_cons, List.map_nil]
      refine callEO_intro hre ?_ rfl
      cases o with
      | none =>
        simp only [zW, zX, zD, builtinA, isLeaf, const1, ustrA, simprocAttr, ti3, ti52, ti54, ti98, ti200, ti266, ti268, ca128, ca129, ca130, ca131, ca133, cf, Tryz.results107, outX, fin]
        exact hfin _ _
      | some vs =>
        have hlv := rowsV_length vs
        simp only [zW, zX, zD, builtinA, isLeaf, const1, ustrA, simprocAttr, ti3, ti52, ti54, ti98, ti200, ti266, ti268, ca128, ca129, ca130, ca131, ca133, cf, Tryz.results107, outX, fin, hlv]
        refine callK_intro (by simp only [zW, zX, zD, builtinA, isLeaf, const1, ustrA, simprocAttr, Option.map_some] <;> rfl) (impl_operandCount k _) ?_ rfl
        rintro r A' ⟨rfl, rfl⟩
        by_cases he : (vs.length : Int) = opc k
        · have hrh := fun A => impl_readHead k i m n t (encXs ks) vs he A
          have hv := headX_val k i m n t vs
          rw [if_pos he]
          generalize hqq : headX k i m n t vs = qq at *
          obtain ⟨v, o⟩ := qq
          simp only at hv hrh ⊢
          simp only [zW, zX, zD, builtinA, isLeaf, const1, ustrA, simprocAttr, ti3, ti52, ti54, ti98, ti200, ti266, ti268, ca128, ca129, ca130, ca131, ca133, cf, Tryz.results107, decide_eq_true he, hlv]
          refine callK_intro (by simp only [zW, zX, zD, builtinA, isLeaf, const1, ustrA, simprocAttr, Option.map_some] <;> rfl) (hrh _) ?_ rfl
          rintro r A' ⟨rfl, rfl⟩
          rcases hv with rfl | ⟨T, y, rfl⟩
          · simp only [zW, zX, zD, builtinA, isLeaf, const1, ustrA, simprocAttr, ti3, ti52, ti54, ti98, ti200, ti266, ti268, ca128, ca129, ca130, ca131, ca133, cf, Tryz.results107]
            exact hfin _ _
          · simp only [zW, zX, zD, builtinA, isLeaf, const1, ustrA, simprocAttr, ti3, ti52, ti54, ti98, ti200, ti266, ti268, ca128, ca129, ca130, ca131, ca133, cf, Tryz.results107]
            exact hfin _ _
        · rw [if_neg he]
          simp only [zW, zX, zD, builtinA, isLeaf, const1, ustrA, simprocAttr, ti3, ti52, ti54, ti98, ti200, ti266, ti268, ca128, ca129, ca130, ca131, ca133, cf, Tryz.results107, decide_eq_false he, hlv]
          exact hfin _ _

theorem nodeX (x : Ex) (hx : szX x ≤ 1048576) : NodeX x := by
  induction x using Ex.ind with
  | h k i m n t ks ih =>
    rw [szX] at hx
    exact impl_nodeX k i m n t ks (by omega) fun y hy => ih y hy (by have := szXs_mem hy; omega)

set_option maxRecDepth 100000 in
theorem impl_readExpr2 (x : Ex) (hx : szX x ≤ 1048576) (A : List Box) :
    ACalls Tryz.prog 73 [.agg (encX x)] A (fun r A' => ((∃ v, x = toX v ∧ EOk v ∧ r = .tuple [ifE v, .bool true]) ∨ (validX x = false ∧ ∃ w, (w = .nili ∨ ∃ T y, w = .iface T y) ∧ r = .tuple [w, .bool false])) ∧ A' = A) := by
  have hn := nodeX x hx (A.length + 1) 0 1 (A ++ [.cells (encX x), .cells [.int .i64 0]]) (by simp) (by rw [Abs.getD_append_right (by simp)]; simp) (by omega) (by omega) (by omega) (by omega)
  have hv := readX_val x 1 0
  have hof := readX_of x 1 0
  have hbad : (readX x 1 0).1.2 = none → validX x = false := fun h => by
    rcases validX_cases x with ⟨u, hxu, hu⟩ | h'
    · rw [hxu, readX_toX u 1 0 hu.ok (by have := hu.dep; omega) (by omega) (by have := hu.cnt; omega)] at h; cases h
    · exact h'
  have hset : ∀ Y, (A ++ [Box.cells (encX x), .cells [.int .i64 0]]).set (A.length + 1) Y = A ++ [.cells (encX x), Y] := fun Y => by
    rw [List.set_append_right _ _ (by omega)]; simp
  rw [hset] at hn
  generalize hq : readX x 1 0 = q at *
  obtain ⟨⟨w, o⟩, c'⟩ := q
  simp only at hn hv hof hbad
  have fin : ((∃ v, x = toX v ∧ EOk v ∧ AV.tuple [w, .bool o.isSome] = .tuple [ifE v, .bool true]) ∨ (validX x = false ∧ ∃ w', (w' = .nili ∨ ∃ T y, w' = .iface T y) ∧ AV.tuple [w, .bool o.isSome] = .tuple [w', .bool false])) := by
    cases o with
    | none => exact .inr ⟨hbad rfl, w, hv, rfl⟩
    | some v =>
      obtain ⟨a1, a2, a3, a4, a5⟩ := hof v (by omega) rfl
      simp only [Prod.mk.injEq] at a5
      exact .inl ⟨v, a1, ⟨a2, by omega, by omega⟩, by rw [a5.1.1]; rfl⟩
  rcases hv with rfl | ⟨T, y, rfl⟩
  · refine acalls_enter (cf := cf 10 [0, 1, 2, 3, 4]) foll Tryz.func73 Tryz.ntmps73 (by simp [cf]) ?_
    simp only [Tryz.f73, EnterK_some, zW, zX, zD, builtinA, isLeaf, const1, ustrA, simprocAttr, ti54, ti200, ca107, cf, Tryz.results73]
    simp only [zW, zX, zD, builtinA, isLeaf, const1, ustrA, simprocAttr, ti54, ti200, ca107, cf, Tryz.results73, encX_length, encX_take]
    refine callK_intro (by simp only [zW, zX, zD, builtinA, isLeaf, const1, ustrA, simprocAttr, frzL_encX, Option.map_some] <;> rfl) (hn) ?_ rfl
    rintro r A' ⟨rfl, rfl⟩
    simp only [zW, zX, zD, builtinA, isLeaf, const1, ustrA, simprocAttr, ti54, ti200, ca107, cf, Tryz.results73]
    exact fin
  · refine acalls_enter (cf := cf 10 [0, 1, 2, 3, 4]) foll Tryz.func73 Tryz.ntmps73 (by simp [cf]) ?_
    simp only [Tryz.f73, EnterK_some, zW, zX, zD, builtinA, isLeaf, const1, ustrA, simprocAttr, ti54, ti200, ca107, cf, Tryz.results73]
    simp only [zW, zX, zD, builtinA, isLeaf, const1, ustrA, simprocAttr, ti54, ti200, ca107, cf, Tryz.results73, encX_length, encX_take]
    refine callK_intro (by simp only [zW, zX, zD, builtinA, isLeaf, const1, ustrA, simprocAttr, frzL_encX, Option.map_some] <;> rfl) (hn) ?_ rfl
    rintro r A' ⟨rfl, rfl⟩
    simp only [zW, zX, zD, builtinA, isLeaf, const1, ustrA, simprocAttr, ti54, ti200, ca107, cf, Tryz.results73]
    exact fin
theorem impl_readExpr (x : Ex) (hx : szX x ≤ 1048576) (A : List Box) :
    ACalls Tryz.prog 73 [.agg (encX x)] A (fun r A' => ((∃ v, x = toX v ∧ EOk v ∧ r = .tuple [ifE v, .bool true]) ∨ (validX x = false ∧ ∃ w, r = .tuple [w, .bool false])) ∧ A' = A) :=
  (impl_readExpr2 x hx A).mono fun r A' ⟨h, e⟩ => ⟨h.imp id fun ⟨h1, w, _, h2⟩ => ⟨h1, w, h2⟩, e⟩

end Go.Proofs.YtebgneaehhaclaaGreat
