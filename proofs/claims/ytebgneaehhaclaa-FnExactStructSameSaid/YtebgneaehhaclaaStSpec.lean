/- Equality of structures: the model's. -/
import Derived.Test.YtebgneaehhaclaaItems
import Derived.Test.YtebgneaehhaclaaSameSp
import Derived.Test.YtebgneaehhaclaaExSameS
import Derived.Test.YtebgneaehhaclaaAbsW3
set_option linter.unusedVariables false
set_option linter.unusedSimpArgs false
namespace Go.Proofs.Ytebgneaehhaclaa
open Go.Abs

noncomputable def stB (x y : ItI) : Bool := ((decide (x.kind = y.kind) && decide (x.name = y.name)) && decide (x.typ = y.typ)) && decide (x.ex = y.ex)
noncomputable def stsB : List ItI → List ItI → Bool
  | [], [] => true
  | x :: a, y :: b => stB x y && stsB a b
  | _, _ => false
theorem it_drop {l : List ItI} {i : Nat} (h : i < l.length) : l.drop i = l.getD i itm0 :: l.drop (i + 1) := by
  have : l.getD i itm0 = l[i] := by simp [List.getD, h]
  rw [this, List.getElem_cons_drop h]
theorem stsB_len : ∀ {a b : List ItI}, a.length ≠ b.length → stsB a b = false
  | [], [], h => absurd rfl h
  | [], _ :: _, _ => by simp [stsB]
  | _ :: _, [], _ => by simp [stsB]
  | x :: a, y :: b, h => by simp [stsB, stsB_len (a := a) (b := b) (by simpa using h)]
theorem tE4 (t : Ty) : enc t = [.int .i64 t.kind, .str t.mod, .str t.name, .slice (encs t.kids)] := by cases t; rw [enc]; rfl
theorem xE9 (x : ItI) : encX x.ex = [.int .i64 x.xk, .int .i64 x.xi, .str x.xm, .str x.xn, .int .i64 x.xt.kind, .str x.xt.mod, .str x.xt.name, .slice (encs x.xt.kids), .slice (encXs x.xs)] := by rw [ItI.ex, encX]

set_option maxRecDepth 100000 in
set_option maxHeartbeats 4000000 in
theorem spec_StructSame (a b : List ItI) (ha : ∀ x ∈ a, x.Ok) (hla : a.length ≤ 1048576) (A : List Box) : ACalls Try.prog 23 [.slice (iEs a), .slice (iEs b)] A (fun r A' => r = .bool (stsB a b) ∧ A' = A) := by
  by_cases hl : a.length = b.length
  · have hd : decide ((a.length : Int) = (b.length : Int)) = true := decide_eq_true (by omega)
    refine acalls_enter (cf := cf 69 [0, 1, 4, 5, 10, 14, 68]) foll Try.func23 Try.ntmps23 (by simp [cf]) ?_
    simp only [Try.f23, EnterK_some, zW, zX, zD, builtinA, isLeaf, const1, ustrA, simprocAttr, ti3, ti9, ti30, ti50, ti53, ti124, ca34, ca42, cf, Try.results23]
    simp only [zW, zX, zD, builtinA, isLeaf, const1, ustrA, simprocAttr, ti3, ti9, ti30, ti50, ti53, ti124, ca34, ca42, cf, Try.results23, iEs_length, hd]
    refine aloop_intro [0, 1, 5] (fun e A' => ∃ i, i ≤ a.length ∧ stsB (a.drop i) (b.drop i) = stsB a b ∧ e = [(0, .slice (iEs a)), (1, .slice (iEs b)), (5, .int .i64 i)] ∧ A' = A) (fun e _ => a.length - (intOf (Abs.look 5 e)).toNat) ?_ ?_
    · simp only [zW, zX, zD, builtinA, isLeaf, const1, ustrA, simprocAttr, ti3, ti9, ti30, ti50, ti53, ti124, ca34, ca42, cf, Try.results23]
      exact ⟨0, by omega, rfl, rfl⟩
    · rintro e A' ⟨i, hi, hq, rfl, rfl⟩
      simp only [zW, zX, zD, builtinA, isLeaf, const1, ustrA, simprocAttr, ti3, ti9, ti30, ti50, ti53, ti124, ca34, ca42, cf, Try.results23, iEs_length]
      refine condK_intro (fun h2 => ?_) (fun h2 => ?_)
      · have hi2 : i < a.length := by simpa using h2
        have hj2 : i < b.length := by omega
        rw [it_drop hi2, it_drop hj2, stsB] at hq
        have e1 := iEs_getD hi2
        have e2 := iEs_getD hj2
        have hm := ha _ (it_mem hi2)
        have hi1 : IntKind.i64.wrap ((i : Int) + 1) = ((i + 1 : Nat) : Int) := by rw [wrap64 (by omega) (by omega)]; rfl
        generalize a.getD i itm0 = x at *
        generalize b.getD i itm0 = y at *
        have pa : (0 : Int) ≤ (i : Int) ∧ (i : Int) < (a.length : Int) := ⟨by omega, by omega⟩
        have pb : (0 : Int) ≤ (i : Int) ∧ (i : Int) < (b.length : Int) := ⟨by omega, by omega⟩
        have hty := fun A => spec_TypeSame x.typ hm.2.1 y.typ A
        have hex := fun A => spec_ExprSame x.ex hm.2.2 y.ex A
        rw [tE4 x.typ, tE4 y.typ] at hty
        rw [xE9 x, xE9 y] at hex
        simp only [iE] at e1 e2
        simp only [zW, zX, zD, builtinA, isLeaf, const1, ustrA, simprocAttr, ti3, ti9, ti30, ti50, ti53, ti124, ca34, ca42, cf, Try.results23, e1, e2, iEs_length]
        refine .inl ⟨by kernel_rfl, by kernel_rfl, pa, pb, ?_⟩
        by_cases k1 : x.kind = y.kind
        · simp only [zW, zX, zD, builtinA, isLeaf, const1, ustrA, simprocAttr, ti3, ti9, ti30, ti50, ti53, ti124, ca34, ca42, cf, Try.results23, decide_eq_true k1, e1, e2, iEs_length]
          refine ⟨pa, pb, ?_⟩
          by_cases k2 : x.name = y.name
          · simp only [zW, zX, zD, builtinA, isLeaf, const1, ustrA, simprocAttr, ti3, ti9, ti30, ti50, ti53, ti124, ca34, ca42, cf, Try.results23, decide_eq_true k2, e1, e2, iEs_length]
            refine ⟨pa, pb, ?_⟩
            refine callD_intro (by simp only [zW, zX, zD, builtinA, isLeaf, const1, ustrA, simprocAttr, Option.map_some] <;> rfl) (hty _) ?_ rfl
            by_cases k3 : x.typ = y.typ
            · simp only [zW, zX, zD, builtinA, isLeaf, const1, ustrA, simprocAttr, ti3, ti9, ti30, ti50, ti53, ti124, ca34, ca42, cf, Try.results23, decide_eq_true k3, e1, e2, iEs_length]
              refine ⟨pa, pb, ?_⟩
              refine callD_intro (by simp only [zW, zX, zD, builtinA, isLeaf, const1, ustrA, simprocAttr, Option.map_some] <;> rfl) (hex _) ?_ rfl
              by_cases k4 : x.ex = y.ex
              · have : stB x y = true := by simp [stB, k1, k2, k3, k4]
                rw [this, Bool.true_and] at hq
                simp only [zW, zX, zD, builtinA, isLeaf, const1, ustrA, simprocAttr, ti3, ti9, ti30, ti50, ti53, ti124, ca34, ca42, cf, Try.results23, decide_eq_true k4, hi1, LoopK_eq]
                refine ⟨⟨i + 1, by omega, hq, rfl⟩, ?_⟩
                simp only [intOf]; omega
              · have : stB x y = false := by simp [stB, k4]
                rw [this, Bool.false_and] at hq
                simp only [zW, zX, zD, builtinA, isLeaf, const1, ustrA, simprocAttr, ti3, ti9, ti30, ti50, ti53, ti124, ca34, ca42, cf, Try.results23, decide_eq_false k4]
                rw [← hq]
            · have : stB x y = false := by simp [stB, k3]
              rw [this, Bool.false_and] at hq
              simp only [zW, zX, zD, builtinA, isLeaf, const1, ustrA, simprocAttr, ti3, ti9, ti30, ti50, ti53, ti124, ca34, ca42, cf, Try.results23, decide_eq_false k3]
              rw [← hq]
          · have : stB x y = false := by simp [stB, k2]
            rw [this, Bool.false_and] at hq
            simp only [zW, zX, zD, builtinA, isLeaf, const1, ustrA, simprocAttr, ti3, ti9, ti30, ti50, ti53, ti124, ca34, ca42, cf, Try.results23, decide_eq_false k2]
            rw [← hq]
        · have : stB x y = false := by simp [stB, k1]
          rw [this, Bool.false_and] at hq
          simp only [zW, zX, zD, builtinA, isLeaf, const1, ustrA, simprocAttr, ti3, ti9, ti30, ti50, ti53, ti124, ca34, ca42, cf, Try.results23, decide_eq_false k1]
          rw [← hq]
      · have : i = a.length := by simp at h2; omega
        subst this
        have hb0 : b.drop a.length = [] := by simp; omega
        rw [List.drop_length, hb0, stsB] at hq
        simp only [zW, zX, zD, builtinA, isLeaf, const1, ustrA, simprocAttr, ti3, ti9, ti30, ti50, ti53, ti124, ca34, ca42, cf, Try.results23]
        rw [← hq]
  · have hd : decide ((a.length : Int) = (b.length : Int)) = false := decide_eq_false (by omega)
    rw [stsB_len hl]
    refine acalls_enter (cf := cf 69 [0, 1, 4, 5, 10, 14, 68]) foll Try.func23 Try.ntmps23 (by simp [cf]) ?_
    simp only [Try.f23, EnterK_some, zW, zX, zD, builtinA, isLeaf, const1, ustrA, simprocAttr, ti3, ti9, ti30, ti50, ti53, ti124, ca34, ca42, cf, Try.results23]
    simp only [zW, zX, zD, builtinA, isLeaf, const1, ustrA, simprocAttr, ti3, ti9, ti30, ti50, ti53, ti124, ca34, ca42, cf, Try.results23, iEs_length, hd]
end Go.Proofs.Ytebgneaehhaclaa
