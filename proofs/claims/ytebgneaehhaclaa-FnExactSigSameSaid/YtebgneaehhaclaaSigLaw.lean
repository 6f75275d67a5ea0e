/- From a law's argument, a list of items, to data. -/
import Derived.Test.YtebgneaehhaclaaSigs
set_option linter.unusedVariables false
set_option linter.unusedSimpArgs false
namespace Go.Proofs.Ytebgneaehhaclaa
open Go.Abs Go.RowKit Go.ChangeShapes Go.WideShapes Go.ChangeAt Go.ChangeMaps

def SigsOk (l : List SigI) : Prop := l.length < 2 ^ 63 ∧ ∀ x ∈ l, x.Ok
theorem cI : Try.prog.cellsOf 113 = 6 := by kernel_rfl
theorem cIS : Try.prog.cellsOf 24 = 1 := by kernel_rfl
theorem six {α : Type} {l : List α} (h : l.length = 6) : ∃ a b c d e f, l = [a, b, c, d, e, f] := by
  match l, h with
  | [a, b, c, d, e, f], _ => exact ⟨a, b, c, d, e, f, rfl⟩

theorem si_of {cz : List AV} (h : Cells Try.prog 113 cz) : ∃ x : SigI, cz = sEA x ∧ x.Ok := by
  generalize ht : 113 = t at h
  cases h with
  | int h1 h2 => subst ht; rw [Try.underlying113] at h1; injection h1 with h1; cases h1
  | bool h1 => subst ht; rw [Try.underlying113] at h1; injection h1 with h1; cases h1
  | str h1 => subst ht; rw [Try.underlying113] at h1; injection h1 with h1; cases h1
  | slice h1 h2 h3 => subst ht; rw [Try.underlying113] at h1; injection h1 with h1; cases h1
  | @struct t fs cs h1 h2 h3 =>
    subst ht
    rw [Try.underlying113] at h1
    injection h1 with h1
    injection h1 with h1
    subst h1
    rw [cI] at h2
    obtain ⟨a, b, c, d, e, f, rfl⟩ := six h2
    simp only [List.mem_cons, List.not_mem_nil, or_false, forall_eq_or_imp, forall_eq, c3, c9, cS, cT, List.drop_zero, List.drop_succ_cons, List.take_succ_cons, List.take_zero] at h3
    obtain ⟨n, e1⟩ := cells_int Try.underlying3 h3.1
    obtain ⟨m, e2, l2⟩ := cells_str Try.underlying9 h3.2.1
    obtain ⟨τ, e3, l3⟩ := (ty_of h3.2.2).1 rfl
    injection e1 with e1; injection e2 with e2
    subst e1; subst e2
    have hm : maxLen = 2 ^ 63 - 1 := rfl
    exact ⟨⟨n, m, τ⟩, by simp only [sEA]; rw [← e3], by simp only [SigI.Ok]; exact ⟨by omega, l3⟩⟩

theorem sis_of {cz : List AV} (h : Cells Try.prog 24 cz) : ∃ l, cz = [.aslice (sEAs l)] ∧ SigsOk l := by
  generalize ht : 24 = t at h
  cases h with
  | int h1 h2 => subst ht; rw [Try.underlying24] at h1; injection h1 with h1; cases h1
  | bool h1 => subst ht; rw [Try.underlying24] at h1; injection h1 with h1; cases h1
  | str h1 => subst ht; rw [Try.underlying24] at h1; injection h1 with h1; cases h1
  | slice h1 h2 h3 =>
    subst ht
    rw [Try.underlying24] at h1
    injection h1 with h1
    injection h1 with h1
    subst h1
    obtain ⟨ks, k1, k2, k3⟩ := list_enc (f := sEA) (Q := SigI.Ok) fun r hr => si_of (h3 r hr)
    have hm : maxLen = 2 ^ 63 - 1 := rfl
    refine ⟨ks, by rw [sEAs, k1], ?_, k3⟩
    rw [k2]; omega
  | @struct t fs cs h1 h2 h3 => subst ht; rw [Try.underlying24] at h1; injection h1 with h1; cases h1

theorem plainI : plainB Try.prog [24, 113, 39, 37, 3, 9] = true := by kernel_rfl

section
variable {H : Type} {enc' : TypeId × Value → H} {W : World}
set_option maxRecDepth 100000 in
/-- an argument that is a list of items -/
theorem rv_sigs {v : Value} {d : DataW H} {p : List MemPlace} {r : Reach} {b0 : Nat} (hval : Value.okWide Try.prog W r b0 24 v) (h : DataW.Trod enc' Try.prog W 0 (fun _ => true) true 24 v d p) :
    ∃ l : List SigI, SigsOk l ∧ RV (Abs.start W) W (.aslice (sEAs l)) v := by
  obtain ⟨a, len, cap, rfl⟩ := okWide_slice Try.underlying24 hval
  obtain ⟨fuel, hf⟩ := h
  have hmem : 24 ∈ [24, 113, 39, 37, 3, 9] := .head _
  obtain ⟨cz, ho⟩ := plain_opened plainI fuel hmem hf
  obtain ⟨l, he, hk⟩ := sis_of ho.typed
  subst he
  refine ⟨l, hk, ?_⟩
  have := ho.rel 0 (by simp)
  simpa [Value.cells, List.getD] using this
end
end Go.Proofs.Ytebgneaehhaclaa
