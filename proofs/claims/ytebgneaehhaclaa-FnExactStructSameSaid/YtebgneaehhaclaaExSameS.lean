/- The document's ExprSame. -/
import Derived.Test.YtebgneaehhaclaaExprs
import Derived.Test.YtebgneaehhaclaaSameSp
import Derived.Test.YtebgneaehhaclaaSamePX
import Derived.Test.YtebgneaehhaclaaAbsW3
set_option linter.unusedVariables false
set_option linter.unusedSimpArgs false
namespace Go.Proofs.Ytebgneaehhaclaa
open Go.Abs

theorem take_eqX {l l' : List Ex} (hl : l.length = l'.length) (h : ∀ i, i < l.length → l.getD i ex0 = l'.getD i ex0) : l = l' := by
  apply List.ext_getElem hl
  intro i hi hi'
  have := h i hi
  rw [gdS _ _ _ hi, gdS _ _ _ hi'] at this
  exact this

set_option maxRecDepth 100000 in
set_option maxHeartbeats 2000000 in
theorem spec_ExprSame (σ : Ex) (hσ : σ.Ok) : ∀ (τ : Ex) (A : List Box), ACalls Try.prog 34 [.agg (encX σ), .agg (encX τ)] A (fun r A' => r = .bool (decide (σ = τ)) ∧ A' = A) := by
  induction σ using Ex.ind with
  | h k q m n a ks ih =>
    rintro ⟨k', q', m', n', a', ks'⟩ A
    cases hσ with
    | mk hm hn hao hks hok =>
    have hta := spec_TypeSame a hao a'
    rw [encT4, encT4] at hta
    rw [encX, encX]
    have no : ∀ P : Prop, (Ex.mk k q m n a ks = .mk k' q' m' n' a' ks' → P) → ¬ P → decide (Ex.mk k q m n a ks = .mk k' q' m' n' a' ks') = false := fun P h1 h2 => decide_eq_false fun e => h2 (h1 e)
    by_cases h1 : k = k'
    · by_cases h2 : q = q'
      · by_cases h3 : m = m'
        · by_cases h4 : n = n'
          · by_cases h5 : a = a'
            · by_cases h6 : ks.length = ks'.length
              · have d6 : decide (((ks.length : Nat) : Int) = (ks'.length : Nat)) = true := decide_eq_true (by omega)
                refine acalls_enter (cf := cf 68 [0, 1, 2, 3, 4, 5, 48, 53, 67]) foll Try.func34 Try.ntmps34 (by simp [cf]) ?_
                simp only [Try.f34, EnterK_some, zW, zX, zD, builtinA, isLeaf, const1, ustrA, simprocAttr, ti3, ti9, ti50, ti51, ti53, ca34, ca42, cf, Try.results34]
                simp only [zW, zX, zD, builtinA, isLeaf, const1, ustrA, simprocAttr, ti3, ti9, ti50, ti51, ti53, ca34, ca42, cf, Try.results34, decide_eq_true h1, decide_eq_true h2, decide_eq_true h3, decide_eq_true h4, Bool.not_true]
                refine callK_intro (by simp only [zW, zX, zD, builtinA, isLeaf, const1, ustrA, simprocAttr, Option.map_some]; rfl) (hta _) ?_ rfl; rintro v A' ⟨rfl, rfl⟩
                simp only [zW, zX, zD, builtinA, isLeaf, const1, ustrA, simprocAttr, ti3, ti9, ti50, ti51, ti53, ca34, ca42, cf, Try.results34, decide_eq_true h5, d6, encXs_length, Bool.not_true]
                refine aloop_intro [2, 3, 5] (fun e A' => ∃ i, i ≤ ks.length ∧ e = [(2, .ptr A.length 0), (3, .ptr (A.length + 1) 0), (5, .int .i64 i)] ∧ A' = A ++ [.cells [.int .i64 k, .int .i64 q, .str m, .str n, .int .i64 a.kind, .str a.mod, .str a.name, .slice (encs a.kids), .slice (encXs ks)], .cells [.int .i64 k', .int .i64 q', .str m', .str n', .int .i64 a'.kind, .str a'.mod, .str a'.name, .slice (encs a'.kids), .slice (encXs ks')]] ∧ ∀ j, j < i → ks.getD j ex0 = ks'.getD j ex0) (fun e _ => ks.length - (intOf (Abs.look 5 e)).toNat) ?_ ?_
                · simp only [zW, zX, zD, builtinA, isLeaf, const1, ustrA, simprocAttr, ti3, ti9, ti50, ti51, ti53, ca34, ca42, cf, Try.results34]
                  exact ⟨0, by omega, rfl, by simp⟩
                · rintro e A' ⟨i, hi, rfl, rfl, heq⟩
                  have hl' : (encXs ks').length = ks.length := (encXs_length _).trans h6.symm
                  by_cases hlt : i < ks.length
                  · have hlt1 : decide (((i : Nat) : Int) < (ks.length : Nat)) = true := decide_eq_true (by omega)
                    have he := encXs_getD hlt
                    have he' := encXs_getD (show i < ks'.length by omega)
                    have hm := Abs.getD_mem (d := ex0) hlt
                    have hi1 : IntKind.i64.wrap ((i : Int) + 1) = ((i + 1 : Nat) : Int) := by rw [wrap64 (by omega) (by omega)]; rfl
                    simp only [zW, zX, zD, builtinA, isLeaf, const1, ustrA, simprocAttr, ti3, ti9, ti50, ti51, ti53, ca34, ca42, cf, Try.results34, hlt1, he, he', hl', encX_length, encX_take, encXs_length]
                    refine .inl ⟨by kernel_rfl, by kernel_rfl, ⟨by omega, by omega⟩, ⟨by omega, by omega⟩, ?_⟩
                    refine callD_intro (by simp only [zW, zX, zD, builtinA, isLeaf, const1, ustrA, simprocAttr, frzL_encX, Option.map_some] <;> rfl) (ih _ hm (hok _ hm) (ks'.getD i ex0) _) ?_ rfl
                    by_cases hq : ks.getD i ex0 = ks'.getD i ex0
                    · simp only [zW, zX, zD, builtinA, isLeaf, const1, ustrA, simprocAttr, ti3, ti9, ti50, ti51, ti53, ca34, ca42, cf, Try.results34, decide_eq_true hq, Bool.not_true, hi1, LoopK_eq]
                      refine ⟨⟨i + 1, by omega, rfl, fun j hj => ?_⟩, ?_⟩
                      · rcases Nat.lt_or_ge j i with h | h
                        · exact heq j h
                        · obtain rfl : j = i := by omega
                          exact hq
                      · simp only [intOf]
                        omega
                    · rw [no (ks.getD i ex0 = ks'.getD i ex0) (fun e => by injection e with _ _ _ _ _ e; rw [e]) hq]
                      simp only [zW, zX, zD, builtinA, isLeaf, const1, ustrA, simprocAttr, ti3, ti9, ti50, ti51, ti53, ca34, ca42, cf, Try.results34, decide_eq_false hq, Bool.not_false]
                  · have hlt1 : decide (((i : Nat) : Int) < (ks.length : Nat)) = false := decide_eq_false (by omega)
                    have : ks = ks' := take_eqX h6 fun j hj => heq j (by omega)
                    have hd : decide (Ex.mk k q m n a ks = Ex.mk k' q' m' n' a' ks') = true := decide_eq_true (by rw [h1, h2, h3, h4, h5, this])
                    simp only [zW, zX, zD, builtinA, isLeaf, const1, ustrA, simprocAttr, ti3, ti9, ti50, ti51, ti53, ca34, ca42, cf, Try.results34, hlt1, hl', encXs_length]
                    rw [hd]
              · have d6 : decide (((ks.length : Nat) : Int) = (ks'.length : Nat)) = false := decide_eq_false (by omega)
                rw [no (ks.length = ks'.length) (fun e => by injection e with _ _ _ _ _ e; rw [e]) h6]
                refine acalls_enter (cf := cf 68 [0, 1, 2, 3, 4, 5, 48, 53, 67]) foll Try.func34 Try.ntmps34 (by simp [cf]) ?_
                simp only [Try.f34, EnterK_some, zW, zX, zD, builtinA, isLeaf, const1, ustrA, simprocAttr, ti3, ti9, ti50, ti51, ti53, ca34, ca42, cf, Try.results34]
                simp only [zW, zX, zD, builtinA, isLeaf, const1, ustrA, simprocAttr, ti3, ti9, ti50, ti51, ti53, ca34, ca42, cf, Try.results34, decide_eq_true h1, decide_eq_true h2, decide_eq_true h3, decide_eq_true h4, Bool.not_true]
                refine callK_intro (by simp only [zW, zX, zD, builtinA, isLeaf, const1, ustrA, simprocAttr, Option.map_some]; rfl) (hta _) ?_ rfl; rintro v A' ⟨rfl, rfl⟩
                simp only [zW, zX, zD, builtinA, isLeaf, const1, ustrA, simprocAttr, ti3, ti9, ti50, ti51, ti53, ca34, ca42, cf, Try.results34, decide_eq_true h5, d6, encXs_length, Bool.not_true, Bool.not_false]
            · rw [no (a = a') (fun e => by injection e) h5]
              refine acalls_enter (cf := cf 68 [0, 1, 2, 3, 4, 5, 48, 53, 67]) foll Try.func34 Try.ntmps34 (by simp [cf]) ?_
              simp only [Try.f34, EnterK_some, zW, zX, zD, builtinA, isLeaf, const1, ustrA, simprocAttr, ti3, ti9, ti50, ti51, ti53, ca34, ca42, cf, Try.results34]
              simp only [zW, zX, zD, builtinA, isLeaf, const1, ustrA, simprocAttr, ti3, ti9, ti50, ti51, ti53, ca34, ca42, cf, Try.results34, decide_eq_true h1, decide_eq_true h2, decide_eq_true h3, decide_eq_true h4, Bool.not_true]
              refine callK_intro (by simp only [zW, zX, zD, builtinA, isLeaf, const1, ustrA, simprocAttr, Option.map_some]; rfl) (hta _) ?_ rfl; rintro v A' ⟨rfl, rfl⟩
              simp only [zW, zX, zD, builtinA, isLeaf, const1, ustrA, simprocAttr, ti3, ti9, ti50, ti51, ti53, ca34, ca42, cf, Try.results34, decide_eq_false h5, Bool.not_true, Bool.not_false]
          · rw [no (n = n') (fun e => by injection e) h4]
            refine acalls_enter (cf := cf 68 [0, 1, 2, 3, 4, 5, 48, 53, 67]) foll Try.func34 Try.ntmps34 (by simp [cf]) ?_
            simp only [Try.f34, EnterK_some, zW, zX, zD, builtinA, isLeaf, const1, ustrA, simprocAttr, ti3, ti9, ti50, ti51, ti53, ca34, ca42, cf, Try.results34]
            simp only [zW, zX, zD, builtinA, isLeaf, const1, ustrA, simprocAttr, ti3, ti9, ti50, ti51, ti53, ca34, ca42, cf, Try.results34, decide_eq_true h1, decide_eq_true h2, decide_eq_true h3, decide_eq_false h4, Bool.not_true, Bool.not_false]
        · rw [no (m = m') (fun e => by injection e) h3]
          refine acalls_enter (cf := cf 68 [0, 1, 2, 3, 4, 5, 48, 53, 67]) foll Try.func34 Try.ntmps34 (by simp [cf]) ?_
          simp only [Try.f34, EnterK_some, zW, zX, zD, builtinA, isLeaf, const1, ustrA, simprocAttr, ti3, ti9, ti50, ti51, ti53, ca34, ca42, cf, Try.results34]
          simp only [zW, zX, zD, builtinA, isLeaf, const1, ustrA, simprocAttr, ti3, ti9, ti50, ti51, ti53, ca34, ca42, cf, Try.results34, decide_eq_true h1, decide_eq_true h2, decide_eq_false h3, Bool.not_true, Bool.not_false]
      · rw [no (q = q') (fun e => by injection e) h2]
        refine acalls_enter (cf := cf 68 [0, 1, 2, 3, 4, 5, 48, 53, 67]) foll Try.func34 Try.ntmps34 (by simp [cf]) ?_
        simp only [Try.f34, EnterK_some, zW, zX, zD, builtinA, isLeaf, const1, ustrA, simprocAttr, ti3, ti9, ti50, ti51, ti53, ca34, ca42, cf, Try.results34]
        simp only [zW, zX, zD, builtinA, isLeaf, const1, ustrA, simprocAttr, ti3, ti9, ti50, ti51, ti53, ca34, ca42, cf, Try.results34, decide_eq_true h1, decide_eq_false h2, Bool.not_true, Bool.not_false]
    · rw [no (k = k') (fun e => by injection e) h1]
      refine acalls_enter (cf := cf 68 [0, 1, 2, 3, 4, 5, 48, 53, 67]) foll Try.func34 Try.ntmps34 (by simp [cf]) ?_
      simp only [Try.f34, EnterK_some, zW, zX, zD, builtinA, isLeaf, const1, ustrA, simprocAttr, ti3, ti9, ti50, ti51, ti53, ca34, ca42, cf, Try.results34]
      simp only [zW, zX, zD, builtinA, isLeaf, const1, ustrA, simprocAttr, ti3, ti9, ti50, ti51, ti53, ca34, ca42, cf, Try.results34, decide_eq_false h1, Bool.not_true, Bool.not_false]
end Go.Proofs.Ytebgneaehhaclaa
