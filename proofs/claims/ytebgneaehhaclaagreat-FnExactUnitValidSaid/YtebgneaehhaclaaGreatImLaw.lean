/- From a law's argument, a list of modules, to data. -/
import Derived.Test.YtebgneaehhaclaaGreatImps
set_option linter.unusedVariables false
set_option linter.unusedSimpArgs false
namespace Go.Proofs.YtebgneaehhaclaaGreat
open Go.Abs Go.RowKit Go.ChangeShapes Go.WideShapes Go.ChangeAt Go.ChangeMaps

def ImsOk (l : List ImI) : Prop := l.length < 2 ^ 63 ∧ ∀ x ∈ l, x.Ok
theorem cP : Tryz.prog.cellsOf 107 = 2 := by kernel_rfl
theorem cPS : Tryz.prog.cellsOf 22 = 1 := by kernel_rfl
theorem two_of {α : Type} {l : List α} (h : l.length = 2) : ∃ a b, l = [a, b] := by
  match l, h with
  | [a, b], _ => exact ⟨a, b, rfl⟩

theorem pm_of {cz : List AV} (h : Cells Tryz.prog 107 cz) : ∃ x : ImI, cz = pEA x ∧ x.Ok := by
  generalize ht : 107 = t at h
  cases h with
  | int h1 h2 => subst ht; rw [Tryz.underlying107] at h1; injection h1 with h1; cases h1
  | bool h1 => subst ht; rw [Tryz.underlying107] at h1; injection h1 with h1; cases h1
  | str h1 => subst ht; rw [Tryz.underlying107] at h1; injection h1 with h1; cases h1
  | slice h1 h2 h3 => subst ht; rw [Tryz.underlying107] at h1; injection h1 with h1; cases h1
  | @struct t fs cs h1 h2 h3 =>
    subst ht
    rw [Tryz.underlying107] at h1
    injection h1 with h1
    injection h1 with h1
    subst h1
    rw [cP] at h2
    obtain ⟨a, b, rfl⟩ := two_of h2
    simp only [List.mem_cons, List.not_mem_nil, or_false, forall_eq_or_imp, forall_eq, c3, c9, cS, cT, cIS, List.drop_zero, List.drop_succ_cons, List.take_succ_cons, List.take_zero] at h3
    obtain ⟨m, e2, l2⟩ := cells_str Tryz.underlying9 h3.1
    obtain ⟨τ, e3, l3⟩ := sis_of h3.2
    injection e2 with e2; injection e3 with e3
    subst e2; subst e3
    have hm : maxLen = 2 ^ 63 - 1 := rfl
    exact ⟨⟨m, τ⟩, rfl, by simp only [ImI.Ok]; exact ⟨by omega, l3⟩⟩

theorem pms_of {cz : List AV} (h : Cells Tryz.prog 22 cz) : ∃ l, cz = [.aslice (pEAs l)] ∧ ImsOk l := by
  generalize ht : 22 = t at h
  cases h with
  | int h1 h2 => subst ht; rw [Tryz.underlying22] at h1; injection h1 with h1; cases h1
  | bool h1 => subst ht; rw [Tryz.underlying22] at h1; injection h1 with h1; cases h1
  | str h1 => subst ht; rw [Tryz.underlying22] at h1; injection h1 with h1; cases h1
  | slice h1 h2 h3 =>
    subst ht
    rw [Tryz.underlying22] at h1
    injection h1 with h1
    injection h1 with h1
    subst h1
    obtain ⟨ks, k1, k2, k3⟩ := list_enc (f := pEA) (Q := ImI.Ok) fun r hr => pm_of (h3 r hr)
    have hm : maxLen = 2 ^ 63 - 1 := rfl
    refine ⟨ks, by rw [pEAs, k1], ?_, k3⟩
    rw [k2]; omega
  | @struct t fs cs h1 h2 h3 => subst ht; rw [Tryz.underlying22] at h1; injection h1 with h1; cases h1

theorem plainP : plainB Tryz.prog [22, 107, 24, 121, 40, 38, 3, 9] = true := by kernel_rfl

section
variable {H : Type} {enc' : TypeId × Value → H} {W : World}
set_option maxRecDepth 100000 in
/-- an argument that is a list of items -/
theorem rv_imps {v : Value} {d : DataW H} {p : List MemPlace} {r : Reach} {b0 : Nat} (hval : Value.okWide Tryz.prog W r b0 22 v) (h : DataW.Trod enc' Tryz.prog W 0 (fun _ => true) true 22 v d p) :
    ∃ l : List ImI, ImsOk l ∧ RV (Abs.start W) W (.aslice (pEAs l)) v := by
  obtain ⟨a, len, cap, rfl⟩ := okWide_slice Tryz.underlying22 hval
  obtain ⟨fuel, hf⟩ := h
  have hmem : 22 ∈ [22, 107, 24, 121, 40, 38, 3, 9] := .head _
  obtain ⟨cz, ho⟩ := plain_opened plainP fuel hmem hf
  obtain ⟨l, he, hk⟩ := pms_of ho.typed
  subst he
  refine ⟨l, hk, ?_⟩
  have := ho.rel 0 (by simp)
  simpa [Value.cells, List.getD] using this
end
end Go.Proofs.YtebgneaehhaclaaGreat
