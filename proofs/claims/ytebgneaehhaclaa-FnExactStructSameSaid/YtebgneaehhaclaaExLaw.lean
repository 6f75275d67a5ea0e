/- From a law's argument, an expression, to a tree. -/
import Derived.Test.YtebgneaehhaclaaExprs
set_option linter.unusedVariables false
set_option linter.unusedSimpArgs false
namespace Go.Proofs.Ytebgneaehhaclaa
open Go.Abs Go.RowKit Go.ChangeShapes Go.WideShapes Go.ChangeAt Go.ChangeMaps

theorem nine {α : Type} {l : List α} (h : l.length = 9) : ∃ a b c d e f g i j, l = [a, b, c, d, e, f, g, i, j] := by
  match l, h with
  | [a, b, c, d, e, f, g, i, j], _ => exact ⟨a, b, c, d, e, f, g, i, j, rfl⟩
theorem cX : Try.prog.cellsOf 42 = 9 := by kernel_rfl
theorem cXS : Try.prog.cellsOf 40 = 1 := by kernel_rfl

theorem ex_of {t : TypeId} {cz : List AV} (h : Cells Try.prog t cz) :
    (t = 42 → ∃ x, cz = encXA x ∧ x.Ok) ∧ (t = 40 → ∃ ks, cz = [.aslice (encXAs ks)] ∧ ks.length < 2 ^ 63 ∧ ∀ k ∈ ks, k.Ok) := by
  induction h with
  | int h1 h2 => exact ⟨fun e => (by subst e; rw [Try.underlying42] at h1; injection h1 with h1; cases h1), fun e => (by subst e; rw [Try.underlying40] at h1; injection h1 with h1; cases h1)⟩
  | bool h1 => exact ⟨fun e => (by subst e; rw [Try.underlying42] at h1; injection h1 with h1; cases h1), fun e => (by subst e; rw [Try.underlying40] at h1; injection h1 with h1; cases h1)⟩
  | str h1 => exact ⟨fun e => (by subst e; rw [Try.underlying42] at h1; injection h1 with h1; cases h1), fun e => (by subst e; rw [Try.underlying40] at h1; injection h1 with h1; cases h1)⟩
  | slice h1 h2 h3 ih =>
    refine ⟨fun e => (by subst e; rw [Try.underlying42] at h1; injection h1 with h1; cases h1), fun e => ?_⟩
    subst e
    rw [Try.underlying40] at h1
    injection h1 with h1
    injection h1 with h1
    obtain ⟨ks, k1, k2, k3⟩ := list_enc (f := encXA) (Q := Ex.Ok) fun r hr => (ih r hr).1 h1.symm
    have hm : maxLen = 2 ^ 63 - 1 := rfl
    refine ⟨ks, by rw [encXAs_map, k1], ?_, k3⟩
    rw [k2]
    omega
  | @struct t fs cs h1 h2 h3 ih =>
    refine ⟨fun e => ?_, fun e => (by subst e; rw [Try.underlying40] at h1; injection h1 with h1; cases h1)⟩
    subst e
    rw [Try.underlying42] at h1
    injection h1 with h1
    injection h1 with h1
    subst h1
    rw [cX] at h2
    obtain ⟨a, b, c, d, e, f, g, i, j, rfl⟩ := nine h2
    simp only [List.mem_cons, List.not_mem_nil, or_false, forall_eq_or_imp, forall_eq, c3, c9, cS, cT, cXS, List.drop_zero, List.drop_succ_cons, List.take_succ_cons, List.take_zero] at h3 ih
    obtain ⟨k, e1⟩ := cells_int Try.underlying3 h3.1
    obtain ⟨i', e2⟩ := cells_int Try.underlying3 h3.2.1
    obtain ⟨m, e3, l3⟩ := cells_str Try.underlying9 h3.2.2.1
    obtain ⟨s, e4, l4⟩ := cells_str Try.underlying9 h3.2.2.2.1
    obtain ⟨τ, e5, l5⟩ := (ty_of h3.2.2.2.2.1).1 rfl
    obtain ⟨ks, e6, l6, l7⟩ := ih.2.2.2.2.2.2 trivial
    injection e1 with e1; injection e2 with e2; injection e3 with e3; injection e4 with e4; injection e6 with e6
    rw [encTA4] at e5
    injection e5 with e5 e7; injection e7 with e7 e8; injection e8 with e8 e9; injection e9 with e9
    subst e1; subst e2; subst e3; subst e4; subst e5; subst e6; subst e7; subst e8; subst e9
    have hm : maxLen = 2 ^ 63 - 1 := rfl
    exact ⟨.mk k i' m s τ ks, rfl, .mk (by omega) (by omega) l5 l6 l7⟩

theorem plainX : plainB Try.prog [42, 40, 39, 37, 3, 9] = true := by kernel_rfl

section
variable {H : Type} {enc' : TypeId × Value → H} {W : World}
set_option maxRecDepth 100000 in
/-- an argument that is an expression -/
theorem rv_expr {v : Value} {d : DataW H} {p : List MemPlace} {r : Reach} {b0 : Nat} (hval : Value.okWide Try.prog W r b0 42 v) (h : DataW.Trod enc' Try.prog W 0 (fun _ => true) true 42 v d p) :
    ∃ x : Ex, x.Ok ∧ RV (Abs.start W) W (.agg (encXA x)) v := by
  obtain ⟨xs, rfl, hs⟩ := okWide_struct Try.underlying42 hval
  obtain ⟨fuel, hf⟩ := h
  have hmem : 42 ∈ [42, 40, 39, 37, 3, 9] := .head _
  have hp := plain_opened plainX fuel hmem hf
  obtain ⟨cz, ho⟩ := hp
  have hq := (ex_of ho.typed).1 (Eq.refl _)
  obtain ⟨x, he, hk⟩ := hq
  subst he
  exact ⟨x, hk, opened_agg ho⟩
end
end Go.Proofs.Ytebgneaehhaclaa
