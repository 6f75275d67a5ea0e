/- From a law's argument of the recursive type to a tree. -/
import Derived.Test.YtebgneaehhaclaaAbsW3
import Derived.Test.YtebgneaehhaclaaTypesMeth
set_option linter.unusedVariables false
set_option linter.unusedSimpArgs false
namespace Go.Proofs.Ytebgneaehhaclaa
open Go.Abs Go.RowKit Go.ChangeShapes Go.WideShapes Go.ChangeAt Go.ChangeMaps

theorem cells_int {P : Program} {t : TypeId} {k : IntKind} {cz : List AV} (hu : P.underlying t = some (.int k)) (h : Cells P t cz) : ∃ n, cz = [.int k n] := by
  cases h with
  | int h1 h2 => rw [hu] at h1; injection h1 with h1; injection h1 with h1; subst h1; exact ⟨_, rfl⟩
  | bool h1 => rw [hu] at h1; injection h1 with h1; cases h1
  | str h1 => rw [hu] at h1; injection h1 with h1; cases h1
  | slice h1 => rw [hu] at h1; injection h1 with h1; cases h1
  | struct h1 => rw [hu] at h1; injection h1 with h1; cases h1
theorem cells_str {P : Program} {t : TypeId} {cz : List AV} (hu : P.underlying t = some .string) (h : Cells P t cz) : ∃ s, cz = [.str s] ∧ s.length ≤ maxLen := by
  cases h with
  | int h1 h2 => rw [hu] at h1; injection h1 with h1; cases h1
  | bool h1 => rw [hu] at h1; injection h1 with h1; cases h1
  | str h1 h2 => exact ⟨_, rfl, h2⟩
  | slice h1 => rw [hu] at h1; injection h1 with h1; cases h1
  | struct h1 => rw [hu] at h1; injection h1 with h1; cases h1

theorem list_enc {α : Type} {f : α → List AV} {Q : α → Prop} : ∀ {rows : List (List AV)}, (∀ r ∈ rows, ∃ x, r = f x ∧ Q x) → ∃ l : List α, rows = l.map f ∧ l.length = rows.length ∧ ∀ x ∈ l, Q x
  | [], _ => ⟨[], rfl, rfl, by simp⟩
  | r :: rows, h => by
    obtain ⟨x, hx, hq⟩ := h r (by simp)
    obtain ⟨l, h1, h2, h3⟩ := list_enc (rows := rows) fun r hr => h r (by simp [hr])
    exact ⟨x :: l, by simp [hx, h1], by simp [h2], by simpa using ⟨hq, h3⟩⟩

theorem four {α : Type} {l : List α} (h : l.length = 4) : ∃ a b c d, l = [a, b, c, d] := by
  match l, h with
  | [a, b, c, d], _ => exact ⟨a, b, c, d, rfl⟩

theorem c3 : Try.prog.cellsOf 3 = 1 := by kernel_rfl
theorem c9 : Try.prog.cellsOf 9 = 1 := by kernel_rfl
theorem cS : Try.prog.cellsOf 37 = 1 := by kernel_rfl
theorem cT : Try.prog.cellsOf 39 = 4 := by kernel_rfl

theorem ty_of {t : TypeId} {cz : List AV} (h : Cells Try.prog t cz) :
    (t = 39 → ∃ τ, cz = encA τ ∧ τ.Ok) ∧ (t = 37 → ∃ ks, cz = [.aslice (encAs ks)] ∧ ks.length < 2 ^ 63 ∧ ∀ k ∈ ks, k.Ok) := by
  induction h with
  | int h1 h2 => exact ⟨fun e => (by subst e; rw [Try.underlying39] at h1; injection h1 with h1; cases h1), fun e => (by subst e; rw [Try.underlying37] at h1; injection h1 with h1; cases h1)⟩
  | bool h1 => exact ⟨fun e => (by subst e; rw [Try.underlying39] at h1; injection h1 with h1; cases h1), fun e => (by subst e; rw [Try.underlying37] at h1; injection h1 with h1; cases h1)⟩
  | str h1 => exact ⟨fun e => (by subst e; rw [Try.underlying39] at h1; injection h1 with h1; cases h1), fun e => (by subst e; rw [Try.underlying37] at h1; injection h1 with h1; cases h1)⟩
  | slice h1 h2 h3 ih =>
    refine ⟨fun e => (by subst e; rw [Try.underlying39] at h1; injection h1 with h1; cases h1), fun e => ?_⟩
    subst e
    rw [Try.underlying37] at h1
    injection h1 with h1
    injection h1 with h1
    obtain ⟨ks, k1, k2, k3⟩ := list_enc (f := encA) (Q := Ty.Ok) fun r hr => (ih r hr).1 h1.symm
    have hm : maxLen = 2 ^ 63 - 1 := rfl
    refine ⟨ks, by rw [encAs_map, k1], ?_, k3⟩
    rw [k2]
    omega
  | @struct t fs cs h1 h2 h3 ih =>
    refine ⟨fun e => ?_, fun e => (by subst e; rw [Try.underlying37] at h1; injection h1 with h1; cases h1)⟩
    subst e
    rw [Try.underlying39] at h1
    injection h1 with h1
    injection h1 with h1
    subst h1
    rw [cT] at h2
    obtain ⟨a, b, c, d, rfl⟩ := four h2
    simp only [List.mem_cons, List.not_mem_nil, or_false, forall_eq_or_imp, forall_eq, c3, c9, cS, List.drop_zero, List.drop_succ_cons, List.take_succ_cons, List.take_zero] at h3 ih
    obtain ⟨n, e1⟩ := cells_int Try.underlying3 h3.1
    obtain ⟨m, e2, l2⟩ := cells_str Try.underlying9 h3.2.1
    obtain ⟨s, e3, l3⟩ := cells_str Try.underlying9 h3.2.2.1
    obtain ⟨ks, e4, l4, l5⟩ := ih.2.2.2.2 trivial
    injection e1 with e1; injection e2 with e2; injection e3 with e3; injection e4 with e4
    subst e1; subst e2; subst e3; subst e4
    have hm : maxLen = 2 ^ 63 - 1 := rfl
    exact ⟨.mk n m s ks, rfl, .mk (by omega) (by omega) l4 l5⟩

theorem plainT : plainB Try.prog [39, 37, 3, 9] = true := by kernel_rfl

section
variable {H : Type} {enc' : TypeId × Value → H} {W : World}
theorem opened_agg {P : Program} {t : TypeId} {xs : Array Value} {cz : List AV} (h : Opened P W t xs.toList cz) : RV (Abs.start W) W (.agg cz) (.agg xs) := by
  have hl : xs.size = cz.length := by rw [h.len]; simp
  refine .agg cz xs hl (fun x hx => ?_) (fun i hi => ?_)
  · obtain ⟨i, hi, rfl⟩ := Array.mem_iff_getElem.1 hx
    have := h.rel i (by omega)
    have e : xs.toList.getD i undef = xs[i] := by simp [List.getD, hi]
    rw [e] at this
    exact this.cell (leaf_cell (h.leaf _ (Abs.getD_mem (l := cz) (by omega))))
  · have := h.rel i hi
    have e : xs.toList.getD i undef = xs.getD i undef := by
      have : i < xs.size := by omega
      simp [List.getD, Array.getD, this]
    rwa [e] at this

set_option maxRecDepth 100000 in
/-- an argument of the recursive type -/
theorem rv_type {v : Value} {d : DataW H} {p : List MemPlace} {r : Reach} {b0 : Nat} (hval : Value.okWide Try.prog W r b0 39 v) (h : DataW.Trod enc' Try.prog W 0 (fun _ => true) true 39 v d p) :
    ∃ τ : Ty, τ.Ok ∧ RV (Abs.start W) W (.agg (encA τ)) v := by
  obtain ⟨xs, rfl, hs⟩ := okWide_struct Try.underlying39 hval
  obtain ⟨fuel, hf⟩ := h
  have hmem : 39 ∈ [39, 37, 3, 9] := .head _
  have hp := plain_opened plainT fuel hmem hf
  obtain ⟨cz, ho⟩ := hp
  have hq := (ty_of ho.typed).1 (Eq.refl _)
  obtain ⟨τ, he, hk⟩ := hq
  subst he
  exact ⟨τ, hk, opened_agg ho⟩
end

mutual
theorem ok_of_sz : ∀ t, sz t ≤ 1048576 → Ty.Ok t
  | .mk k m n ks, h => by
    rw [sz] at h
    exact .mk (by omega) (by omega) (by omega) (oks_of_szs ks (by omega))
theorem oks_of_szs : ∀ l, szs l ≤ 1048576 → ∀ t ∈ l, Ty.Ok t
  | [], _ => by simp
  | t :: l, h => by
    rw [szs] at h
    intro u hu
    rcases List.mem_cons.1 hu with e | hu
    · rw [e]; exact ok_of_sz t (by omega)
    · exact oks_of_szs l (by omega) u hu
end
end Go.Proofs.Ytebgneaehhaclaa
