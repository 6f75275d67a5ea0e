/- From a law's argument, a list of items of a structure, to data. -/
import Derived.Test.YtebgneaehhaclaaItems
set_option linter.unusedVariables false
set_option linter.unusedSimpArgs false
namespace Go.Proofs.Ytebgneaehhaclaa
open Go.Abs Go.RowKit Go.ChangeShapes Go.WideShapes Go.ChangeAt Go.ChangeMaps

def ItsOk (l : List ItI) : Prop := l.length < 2 ^ 63 ∧ ∀ x ∈ l, x.Ok
theorem cJ : Try.prog.cellsOf 122 = 15 := by kernel_rfl
theorem cJS : Try.prog.cellsOf 23 = 1 := by kernel_rfl
theorem fifteen {α : Type} {l : List α} (h : l.length = 15) : ∃ a b c d e f g i j k m n p q r, l = [a, b, c, d, e, f, g, i, j, k, m, n, p, q, r] := by
  match l, h with
  | [a, b, c, d, e, f, g, i, j, k, m, n, p, q, r], _ => exact ⟨a, b, c, d, e, f, g, i, j, k, m, n, p, q, r, rfl⟩

theorem it_of {cz : List AV} (h : Cells Try.prog 122 cz) : ∃ x : ItI, cz = iEA x ∧ x.Ok := by
  generalize ht : 122 = t at h
  cases h with
  | int h1 h2 => subst ht; rw [Try.underlying122] at h1; injection h1 with h1; cases h1
  | bool h1 => subst ht; rw [Try.underlying122] at h1; injection h1 with h1; cases h1
  | str h1 => subst ht; rw [Try.underlying122] at h1; injection h1 with h1; cases h1
  | slice h1 h2 h3 => subst ht; rw [Try.underlying122] at h1; injection h1 with h1; cases h1
  | @struct t fs cs h1 h2 h3 =>
    subst ht
    rw [Try.underlying122] at h1
    injection h1 with h1
    injection h1 with h1
    subst h1
    rw [cJ] at h2
    obtain ⟨a, b, c, d, e, f, g, i, j, k, m, n, p, q, r, rfl⟩ := fifteen h2
    simp only [List.mem_cons, List.not_mem_nil, or_false, forall_eq_or_imp, forall_eq, c3, c9, cS, cT, cX, List.drop_zero, List.drop_succ_cons, List.take_succ_cons, List.take_zero] at h3
    obtain ⟨n', e1⟩ := cells_int Try.underlying3 h3.1
    obtain ⟨m', e2, l2⟩ := cells_str Try.underlying9 h3.2.1
    obtain ⟨τ, e3, l3⟩ := (ty_of h3.2.2.1).1 rfl
    obtain ⟨⟨xk, xi, xm, xn, xt, xs⟩, e4, l4⟩ := (ex_of h3.2.2.2).1 rfl
    injection e1 with e1; injection e2 with e2
    subst e1; subst e2
    have hm : maxLen = 2 ^ 63 - 1 := rfl
    refine ⟨⟨n', m', τ, xk, xi, xm, xn, xt, xs⟩, ?_, by show m'.length < 2 ^ 63; omega, l3, l4⟩
    rw [encTA4] at e3
    rw [encXA] at e4
    simp only [List.cons.injEq, and_true] at e3 e4
    obtain ⟨rfl, rfl, rfl, rfl⟩ := e3
    obtain ⟨rfl, rfl, rfl, rfl, rfl, rfl, rfl, rfl, rfl⟩ := e4
    rfl

theorem its_of {cz : List AV} (h : Cells Try.prog 23 cz) : ∃ l, cz = [.aslice (iEAs l)] ∧ ItsOk l := by
  generalize ht : 23 = t at h
  cases h with
  | int h1 h2 => subst ht; rw [Try.underlying23] at h1; injection h1 with h1; cases h1
  | bool h1 => subst ht; rw [Try.underlying23] at h1; injection h1 with h1; cases h1
  | str h1 => subst ht; rw [Try.underlying23] at h1; injection h1 with h1; cases h1
  | slice h1 h2 h3 =>
    subst ht
    rw [Try.underlying23] at h1
    injection h1 with h1
    injection h1 with h1
    subst h1
    obtain ⟨ks, k1, k2, k3⟩ := list_enc (f := iEA) (Q := ItI.Ok) fun r hr => it_of (h3 r hr)
    have hm : maxLen = 2 ^ 63 - 1 := rfl
    refine ⟨ks, by rw [iEAs, k1], ?_, k3⟩
    rw [k2]; omega
  | @struct t fs cs h1 h2 h3 => subst ht; rw [Try.underlying23] at h1; injection h1 with h1; cases h1

theorem plainJ : plainB Try.prog [23, 122, 42, 40, 39, 37, 3, 9] = true := by kernel_rfl

section
variable {H : Type} {enc' : TypeId × Value → H} {W : World}
set_option maxRecDepth 100000 in
/-- an argument that is a list of items -/
theorem rv_items {v : Value} {d : DataW H} {p : List MemPlace} {r : Reach} {b0 : Nat} (hval : Value.okWide Try.prog W r b0 23 v) (h : DataW.Trod enc' Try.prog W 0 (fun _ => true) true 23 v d p) :
    ∃ l : List ItI, ItsOk l ∧ RV (Abs.start W) W (.aslice (iEAs l)) v := by
  obtain ⟨a, len, cap, rfl⟩ := okWide_slice Try.underlying23 hval
  obtain ⟨fuel, hf⟩ := h
  have hmem : 23 ∈ [23, 122, 42, 40, 39, 37, 3, 9] := .head _
  obtain ⟨cz, ho⟩ := plain_opened plainJ fuel hmem hf
  obtain ⟨l, he, hk⟩ := its_of ho.typed
  subst he
  refine ⟨l, hk, ?_⟩
  have := ho.rel 0 (by simp)
  simpa [Value.cells, List.getD] using this
end
end Go.Proofs.Ytebgneaehhaclaa
