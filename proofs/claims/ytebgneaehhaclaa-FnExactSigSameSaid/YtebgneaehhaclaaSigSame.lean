/- Equality of signatures: the program's and the model's. -/
import Derived.Test.YtebgneaehhaclaaSigD
import Derived.Test.YtebgneaehhaclaaSameSp
set_option linter.unusedVariables false
set_option linter.unusedSimpArgs false
namespace Go.Proofs.Ytebgneaehhaclaa
open Go.Abs

noncomputable def siB (x y : SigI) : Bool := (decide (x.kind = y.kind) && decide (x.name = y.name)) && decide (x.typ = y.typ)
def hdB (x y : SigI) : Bool := decide (x.kind = y.kind) && decide (x.name = y.name)
noncomputable def sisB : List SigI → List SigI → Bool
  | [], [] => true
  | x :: a, y :: b => siB x y && sisB a b
  | _, _ => false
def hdsB : List SigI → List SigI → Bool
  | [], [] => true
  | x :: a, y :: b => hdB x y && hdsB a b
  | _, _ => false
theorem si_drop {l : List SigI} {i : Nat} (h : i < l.length) : l.drop i = l.getD i si0 :: l.drop (i + 1) := by
  have : l.getD i si0 = l[i] := by simp [List.getD, h]
  rw [this, List.getElem_cons_drop h]
theorem sisB_len : ∀ {a b : List SigI}, a.length ≠ b.length → sisB a b = false
  | [], [], h => absurd rfl h
  | [], _ :: _, _ => by simp [sisB]
  | _ :: _, [], _ => by simp [sisB]
  | x :: a, y :: b, h => by simp [sisB, sisB_len (a := a) (b := b) (by simpa using h)]
theorem hdsB_len : ∀ {a b : List SigI}, a.length ≠ b.length → hdsB a b = false
  | [], [], h => absurd rfl h
  | [], _ :: _, _ => by simp [hdsB]
  | _ :: _, [], _ => by simp [hdsB]
  | x :: a, y :: b, h => by simp [hdsB, hdsB_len (a := a) (b := b) (by simpa using h)]
theorem sisB_split : ∀ (a b : List SigI), sisB a b = (hdsB a b && decide (Ty.mk 0 [] [] (a.map SigI.typ) = .mk 0 [] [] (b.map SigI.typ)))
  | [], [] => by simp [sisB, hdsB]
  | [], _ :: _ => by simp [sisB, hdsB]
  | _ :: _, [] => by simp [sisB, hdsB]
  | x :: a, y :: b => by
    rw [sisB, hdsB, sisB_split a b, siB, hdB, Bool.eq_iff_iff]
    simp only [Bool.and_eq_true, decide_eq_true_eq, List.map_cons, Ty.mk.injEq, List.cons.injEq, true_and]
    constructor
    · rintro ⟨⟨⟨h1, h2⟩, h3⟩, h4, h5⟩; exact ⟨⟨⟨h1, h2⟩, h4⟩, h3, h5⟩
    · rintro ⟨⟨⟨h1, h2⟩, h4⟩, h3, h5⟩; exact ⟨⟨⟨h1, h2⟩, h3⟩, h4, h5⟩

set_option maxRecDepth 100000 in
theorem spec_SigSame (a b : List SigI) (ha : ∀ x ∈ a, x.Ok) (hla : a.length ≤ 1048576) (A : List Box) : ACalls Try.prog 18 [.slice (sEs a), .slice (sEs b)] A (fun r A' => r = .bool (sisB a b) ∧ A' = A) := by
  by_cases hl : a.length = b.length
  · have hd : decide ((a.length : Int) = (b.length : Int)) = true := decide_eq_true (by omega)
    refine acalls_enter (cf := cf 55 [0, 1, 4, 5, 10, 14, 54]) foll Try.func18 Try.ntmps18 (by simp [cf]) ?_
    simp only [Try.f18, EnterK_some, zW, zX, zD, builtinA, isLeaf, const1, ustrA, simprocAttr, ti3, ti9, ti31, ti50, ti115, ca42, cf, Try.results18]
    simp only [zW, zX, zD, builtinA, isLeaf, const1, ustrA, simprocAttr, ti3, ti9, ti31, ti50, ti115, ca42, cf, Try.results18, sEs_length, hd]
    refine aloop_intro [0, 1, 5] (fun e A' => ∃ i, i ≤ a.length ∧ sisB (a.drop i) (b.drop i) = sisB a b ∧ e = [(0, .slice (sEs a)), (1, .slice (sEs b)), (5, .int .i64 i)] ∧ A' = A) (fun e _ => a.length - (intOf (Abs.look 5 e)).toNat) ?_ ?_
    · simp only [zW, zX, zD, builtinA, isLeaf, const1, ustrA, simprocAttr, ti3, ti9, ti31, ti50, ti115, ca42, cf, Try.results18]
      exact ⟨0, by omega, rfl, rfl⟩
    · rintro e A' ⟨i, hi, hq, rfl, rfl⟩
      simp only [zW, zX, zD, builtinA, isLeaf, const1, ustrA, simprocAttr, ti3, ti9, ti31, ti50, ti115, ca42, cf, Try.results18, sEs_length]
      refine condK_intro (fun h2 => ?_) (fun h2 => ?_)
      · have hi2 : i < a.length := by simpa using h2
        have hj2 : i < b.length := by omega
        rw [si_drop hi2, si_drop hj2, sisB] at hq
        have e1 := sEs_getD hi2
        have e2 := sEs_getD hj2
        have hm := ha _ (si_mem hi2)
        have hi1 : IntKind.i64.wrap ((i : Int) + 1) = ((i + 1 : Nat) : Int) := by rw [wrap64 (by omega) (by omega)]; rfl
        generalize a.getD i si0 = x at *
        generalize b.getD i si0 = y at *
        have pa : (0 : Int) ≤ (i : Int) ∧ (i : Int) < (a.length : Int) := ⟨by omega, by omega⟩
        have pb : (0 : Int) ≤ (i : Int) ∧ (i : Int) < (b.length : Int) := ⟨by omega, by omega⟩
        simp only [sE] at e1 e2
        simp only [zW, zX, zD, builtinA, isLeaf, const1, ustrA, simprocAttr, ti3, ti9, ti31, ti50, ti115, ca42, cf, Try.results18, e1, e2, enc_length, enc_take, sEs_length]
        refine .inl ⟨by kernel_rfl, by kernel_rfl, pa, pb, ?_⟩
        by_cases k1 : x.kind = y.kind
        · simp only [zW, zX, zD, builtinA, isLeaf, const1, ustrA, simprocAttr, ti3, ti9, ti31, ti50, ti115, ca42, cf, Try.results18, decide_eq_true k1, e1, e2, enc_length, enc_take, sEs_length]
          refine ⟨pa, pb, ?_⟩
          by_cases k2 : x.name = y.name
          · simp only [zW, zX, zD, builtinA, isLeaf, const1, ustrA, simprocAttr, ti3, ti9, ti31, ti50, ti115, ca42, cf, Try.results18, decide_eq_true k2, e1, e2, enc_length, enc_take, sEs_length]
            refine ⟨pa, pb, ?_⟩
            refine callD_intro (by simp only [zW, zX, zD, builtinA, isLeaf, const1, ustrA, simprocAttr, frzL_enc, Option.map_some] <;> rfl) (spec_TypeSame x.typ hm.2 y.typ _) ?_ rfl
            by_cases k3 : x.typ = y.typ
            · have : siB x y = true := by simp [siB, k1, k2, k3]
              rw [this, Bool.true_and] at hq
              simp only [zW, zX, zD, builtinA, isLeaf, const1, ustrA, simprocAttr, ti3, ti9, ti31, ti50, ti115, ca42, cf, Try.results18, decide_eq_true k3, hi1, LoopK_eq]
              refine ⟨⟨i + 1, by omega, hq, rfl⟩, ?_⟩
              simp only [intOf]; omega
            · have : siB x y = false := by simp [siB, k3]
              rw [this, Bool.false_and] at hq
              simp only [zW, zX, zD, builtinA, isLeaf, const1, ustrA, simprocAttr, ti3, ti9, ti31, ti50, ti115, ca42, cf, Try.results18, decide_eq_false k3]
              rw [← hq]
          · have : siB x y = false := by simp [siB, k2]
            rw [this, Bool.false_and] at hq
            simp only [zW, zX, zD, builtinA, isLeaf, const1, ustrA, simprocAttr, ti3, ti9, ti31, ti50, ti115, ca42, cf, Try.results18, decide_eq_false k2]
            rw [← hq]
        · have : siB x y = false := by simp [siB, k1]
          rw [this, Bool.false_and] at hq
          simp only [zW, zX, zD, builtinA, isLeaf, const1, ustrA, simprocAttr, ti3, ti9, ti31, ti50, ti115, ca42, cf, Try.results18, decide_eq_false k1]
          rw [← hq]
      · have : i = a.length := by simp at h2; omega
        subst this
        have hb0 : b.drop a.length = [] := by simp; omega
        rw [List.drop_length, hb0, sisB] at hq
        simp only [zW, zX, zD, builtinA, isLeaf, const1, ustrA, simprocAttr, ti3, ti9, ti31, ti50, ti115, ca42, cf, Try.results18]
        rw [← hq]
  · have hd : decide ((a.length : Int) = (b.length : Int)) = false := decide_eq_false (by omega)
    rw [sisB_len hl]
    refine acalls_enter (cf := cf 55 [0, 1, 4, 5, 10, 14, 54]) foll Try.func18 Try.ntmps18 (by simp [cf]) ?_
    simp only [Try.f18, EnterK_some, zW, zX, zD, builtinA, isLeaf, const1, ustrA, simprocAttr, ti3, ti9, ti31, ti50, ti115, ca42, cf, Try.results18]
    simp only [zW, zX, zD, builtinA, isLeaf, const1, ustrA, simprocAttr, ti3, ti9, ti31, ti50, ti115, ca42, cf, Try.results18, sEs_length, hd]
end Go.Proofs.Ytebgneaehhaclaa
