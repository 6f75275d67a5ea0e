/- From a law's argument, a list of bindings, to data. -/
import Derived.Test.YtfefnoaebafkiaaBinds
set_option linter.unusedVariables false
set_option linter.unusedSimpArgs false
namespace Go.Proofs.Ytfefnoaebafkiaa
open Go.Abs Go.RowKit Go.ChangeShapes Go.WideShapes Go.ChangeAt Go.ChangeMaps

def BdsOk (l : List BdI) : Prop := l.length < 2 ^ 63 ∧ ∀ x ∈ l, x.Ok
theorem cB : Try.prog.cellsOf 74 = 6 := by kernel_rfl
theorem cBS : Try.prog.cellsOf 32 = 1 := by kernel_rfl
theorem six {α : Type} {l : List α} (h : l.length = 6) : ∃ a b c d e f, l = [a, b, c, d, e, f] := by
  match l, h with
  | [a, b, c, d, e, f], _ => exact ⟨a, b, c, d, e, f, rfl⟩

theorem bd_of {cz : List AV} (h : Cells Try.prog 74 cz) : ∃ x : BdI, cz = bEA x ∧ x.Ok := by
  generalize ht : 74 = t at h
  cases h with
  | int h1 h2 => subst ht; rw [Try.underlying74] at h1; injection h1 with h1; cases h1
  | bool h1 => subst ht; rw [Try.underlying74] at h1; injection h1 with h1; cases h1
  | str h1 => subst ht; rw [Try.underlying74] at h1; injection h1 with h1; cases h1
  | slice h1 h2 h3 => subst ht; rw [Try.underlying74] at h1; injection h1 with h1; cases h1
  | @struct t fs cs h1 h2 h3 =>
    subst ht
    rw [Try.underlying74] at h1
    injection h1 with h1
    injection h1 with h1
    subst h1
    rw [cB] at h2
    obtain ⟨a, b, c, d, e, f, rfl⟩ := six h2
    simp only [List.mem_cons, List.not_mem_nil, or_false, forall_eq_or_imp, forall_eq, c3, c9, cS, cT, List.drop_zero, List.drop_succ_cons, List.take_succ_cons, List.take_zero] at h3
    obtain ⟨n', e1, l1⟩ := cells_str Try.underlying9 h3.1
    obtain ⟨m', e2, l2⟩ := cells_str Try.underlying9 h3.2.1
    obtain ⟨τ, e3, l3⟩ := (ty_of h3.2.2).1 rfl
    injection e1 with e1; injection e2 with e2
    subst e1; subst e2
    have hm : maxLen = 2 ^ 63 - 1 := rfl
    refine ⟨⟨n', m', τ⟩, ?_, by show n'.length < 2 ^ 63; omega, by show m'.length < 2 ^ 63; omega, l3⟩
    rw [bTA4] at e3
    simp only [List.cons.injEq, and_true] at e3
    obtain ⟨rfl, rfl, rfl, rfl⟩ := e3
    rfl

theorem bds_of {cz : List AV} (h : Cells Try.prog 32 cz) : ∃ l, cz = [.aslice (bEAs l)] ∧ BdsOk l := by
  generalize ht : 32 = t at h
  cases h with
  | int h1 h2 => subst ht; rw [Try.underlying32] at h1; injection h1 with h1; cases h1
  | bool h1 => subst ht; rw [Try.underlying32] at h1; injection h1 with h1; cases h1
  | str h1 => subst ht; rw [Try.underlying32] at h1; injection h1 with h1; cases h1
  | slice h1 h2 h3 =>
    subst ht
    rw [Try.underlying32] at h1
    injection h1 with h1
    injection h1 with h1
    subst h1
    obtain ⟨ks, k1, k2, k3⟩ := list_enc (f := bEA) (Q := BdI.Ok) fun r hr => bd_of (h3 r hr)
    have hm : maxLen = 2 ^ 63 - 1 := rfl
    refine ⟨ks, by rw [bEAs, k1], ?_, k3⟩
    rw [k2]; omega
  | @struct t fs cs h1 h2 h3 => subst ht; rw [Try.underlying32] at h1; injection h1 with h1; cases h1

theorem plainB2 : plainB Try.prog [32, 74, 24, 22, 3, 9] = true := by kernel_rfl

section
variable {H : Type} {enc' : TypeId × Value → H} {W : World}
set_option maxRecDepth 100000 in
/-- an argument that is a list of bindings -/
theorem rv_binds {v : Value} {d : DataW H} {p : List MemPlace} {r : Reach} {b0 : Nat} (hval : Value.okWide Try.prog W r b0 32 v) (h : DataW.Trod enc' Try.prog W 0 (fun _ => true) true 32 v d p) :
    ∃ l : List BdI, BdsOk l ∧ RV (Abs.start W) W (.aslice (bEAs l)) v := by
  obtain ⟨a, len, cap, rfl⟩ := okWide_slice Try.underlying32 hval
  obtain ⟨fuel, hf⟩ := h
  have hmem : 32 ∈ [32, 74, 24, 22, 3, 9] := .head _
  obtain ⟨cz, ho⟩ := plain_opened plainB2 fuel hmem hf
  obtain ⟨l, he, hk⟩ := bds_of ho.typed
  subst he
  refine ⟨l, hk, ?_⟩
  have := ho.rel 0 (by simp)
  simpa [Value.cells, List.getD] using this
end
end Go.Proofs.Ytfefnoaebafkiaa
