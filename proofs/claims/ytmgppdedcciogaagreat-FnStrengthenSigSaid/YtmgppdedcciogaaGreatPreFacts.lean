/- What a name stands for in the first items of a signature. -/
import Derived.Test.YtmgppdedcciogaaGreatSigStr
import Derived.Test.YtmgppdedcciogaaGreatSigSame
import Derived.Test.YtmgppdedcciogaaGreatDrawSigs
import Derived.Test.YtmgppdedcciogaaGreatSigOne
import Derived.Test.YtmgppdedcciogaaGreatSpFind
set_option linter.unusedVariables false
set_option linter.unusedSimpArgs false
namespace Go.Proofs.YtmgppdedcciogaaGreat
open Go.Abs

theorem sisB_iff : ∀ (a b : List SigI), sisB a b = true ↔ a = b
  | [], [] => by simp [sisB]
  | [], _ :: _ => by simp [sisB]
  | _ :: _, [] => by simp [sisB]
  | x :: a, y :: b => by
    rw [sisB, Bool.and_eq_true, sisB_iff a b, siB]
    obtain ⟨k, n, t⟩ := x
    obtain ⟨k', n', t'⟩ := y
    simp [and_assoc]
theorem sisB_refl (a : List SigI) : sisB a a = true := (sisB_iff a a).2 rfl
theorem sisB_comm (a b : List SigI) : sisB a b = sisB b a := by
  rw [Bool.eq_iff_iff, sisB_iff, sisB_iff]; exact ⟨Eq.symm, Eq.symm⟩
theorem szIs_bd : ∀ (l : List SigI) (b : Nat), (∀ x ∈ l, szI x ≤ b) → szIs l ≤ l.length * b
  | [], b, _ => by simp [szIs]
  | x :: l, b, h => by
    have h1 := h x (by simp)
    have h2 := szIs_bd l b fun y hy => h y (by simp [hy])
    simp only [szIs, List.map_cons, List.sum_cons, List.length_cons] at h2 ⊢
    rw [Nat.succ_mul]; omega
theorem smx_all {s : List SigI} (hs : s.length ≤ 9) (hm : ∀ x ∈ s, SmX x) : (∀ x ∈ s, x.Ok ∧ sz x.typ ≤ 1048576) ∧ s.length + szIs s ≤ 1048576 := by
  refine ⟨fun x hx => (hm x hx).ok, ?_⟩
  have h2 := szIs_bd s 100 fun x hx => by
    have h3 : x.name.length ≤ 2 ∧ sz x.typ ≤ 60 := hm x hx
    rw [szI]; omega
  omega
theorem vi_sz {y : VI} (h : VOk (meanI y)) : sz (siOf y).typ ≤ 200 := by
  cases y with
  | ab n => simp [siOf, ty0, sz, szs]
  | al n v =>
    have h1 := sz_toTyS v h.1
    have h2 := h.cnt
    simp only [meanI] at h2
    simp only [siOf]; omega
  | va n v =>
    have h1 := sz_toTyS v h.1
    have h2 := h.cnt
    simp only [meanI] at h2
    simp only [siOf]; omega
/-- what strengthening hands back is small and in order -/
theorem str_small {s : List SigI} (hm : ∀ x ∈ s, SmX x) {mod : List UInt8} {o : Option (List VI)} (h : RdS s mod o) : (nrX o).length ≤ 8 ∧ (∀ x ∈ nrX o, x.Ok ∧ sz x.typ ≤ 1048576) ∧ (nrX o).length + szIs (nrX o) ≤ 1048576 := by
  have h1 := strX_ok (fun x hx => (hm x hx).ok.1) h
  have key : ∀ x ∈ nrX o, x.name.length ≤ 2 ∧ sz x.typ ≤ 200 := by
    cases o with
    | none => simp [nrX]
    | some zs =>
      obtain ⟨ys, h8, hr, hord, hmd, rfl⟩ := h
      intro x hx
      obtain ⟨y, hy, rfl⟩ := List.mem_map.1 hx
      obtain ⟨y0, hy0, rfl⟩ := List.mem_map.1 hy
      obtain ⟨i, hi, rfl⟩ := List.mem_iff_getElem.1 hy0
      have e : ys.getD i vi0 = ys[i] := by simp [List.getD, hi]
      have h3 := str_ok hmd hr hi
      have h4 := hr.2 i (by rw [← hr.1]; exact hi)
      rw [e] at h3 h4
      refine ⟨?_, vi_sz h3⟩
      rw [siOf_name, viK_str, ← siOf_name, ← itemOf_si h4.2]
      exact (hm _ (si_mem (by rw [← hr.1]; exact hi))).1
  refine ⟨h1.1, fun x hx => ⟨h1.2.1 x hx, by have := (key x hx).2; omega⟩, ?_⟩
  have h2 := szIs_bd (nrX o) 300 fun x hx => by have := key x hx; rw [szI]; omega
  have := h1.1
  omega
theorem rdS_some {s : List SigI} {mod : List UInt8} {o : Option (List VI)} (h : RdS s mod o) : (sigB s && moduleB mod) = o.isSome := by
  cases o with
  | none => rcases h with h | h <;> simp [h]
  | some zs =>
    obtain ⟨ys, h8, hr, hord, hmd, rfl⟩ := h
    simp [sigB_reads h8 hr, hord, hmd]
theorem rdS_twice {s : List SigI} {mod m2 : List UInt8} {zs : List VI} (h : RdS s mod (some zs)) (h2 : moduleB m2 = true) : RdS (zs.map siOf) m2 (some zs) := by
  obtain ⟨ys, h8, hr, hord, hmd, rfl⟩ := h
  refine ⟨ys.map (strI mod), by simp [hr.1]; exact h8, str_reads hmd hr, ordB_str hmd hord, h2, ?_⟩
  rw [List.map_map]
  congr 1
  funext y
  cases y <;> rfl
end Go.Proofs.YtmgppdedcciogaaGreat

namespace Go.Proofs.YtmgppdedcciogaaGreat
open Go.Abs

theorem normL_take : ∀ {ys zs : List VI} {m : List (BNm × VT)} (k : Nat), normL m ys = some zs → normL m (ys.take k) = some (zs.take k)
  | ys, zs, m, 0, h => by simp [normL]
  | [], zs, m, k + 1, h => by rw [normL] at h; cases h; simp [normL]
  | y :: ys, zs, m, k + 1, h => by
    rw [normL] at h
    rw [List.take_succ_cons, normL]
    split at h
    · rename_i hf
      obtain ⟨x, hx, rfl⟩ := Option.map_eq_some_iff.1 h
      rw [if_pos hf, normL_take k hx]
      rfl
    · cases h
theorem take_getD {α : Type} {l : List α} {k i : Nat} (d : α) (h : i < k) : (l.take k).getD i d = l.getD i d := by
  simp [List.getD, List.getElem?_take, h]
theorem ordB_take {ys : List VI} (k : Nat) (h : ordB ys = true) : ordB (ys.take k) = true := by
  unfold ordB at h ⊢
  rw [List.all_eq_true] at h ⊢
  intro i hi
  rw [List.mem_range, List.length_take] at hi
  have := h i (List.mem_range.2 (by omega))
  rw [take_getD vi0 (by omega), List.take_take, Nat.min_eq_left (by omega)]
  exact this
theorem reads_take {s : List SigI} {ys : List VI} (k : Nat) (h : ReadsTo s ys) : ReadsTo (s.take k) (ys.take k) := by
  refine ⟨by rw [List.length_take, List.length_take, h.1], fun i hi => ?_⟩
  rw [List.length_take] at hi
  rw [take_getD si0 (by omega), take_getD vi0 (by omega)]
  exact h.2 i (by omega)
theorem sigB_take {s : List SigI} (k : Nat) (h : sigB s = true) : sigB (s.take k) = true := by
  obtain ⟨ys, h8, hr, hord⟩ := sigB_yes h
  rw [sigB_reads (by rw [List.length_take]; omega) (reads_take k hr)]
  exact ordB_take k hord
theorem rdN_take {s : List SigI} {zs : List VI} (k : Nat) (h : RdN s (some zs)) : RdN (s.take k) (some (zs.take k)) := by
  obtain ⟨ys, h8, hr, hord, hn⟩ := h
  exact ⟨ys.take k, by rw [List.length_take]; omega, reads_take k hr, ordB_take k hord, normL_take k hn⟩
/-- a name that is found in the first items stands there for what it stands for in all -/
theorem mean_take {s : List SigI} {q : Ky} {v w : VT} (k : Nat) (h : MeanIs s q (some v)) (h2 : MeanIs (s.take k) q (some w)) : w = v := by
  rcases h with ⟨zs, hr, hf⟩ | ⟨_, h⟩
  · rcases h2 with ⟨zs', hr', i, hi, hk, hm⟩ | ⟨_, h⟩
    · have e := rdN_one hr' (rdN_take k hr)
      subst e
      rw [List.length_take] at hi
      rw [take_getD vi0 (by omega)] at hk hm
      have h3 : MeanIs s q (some w) := .inl ⟨zs, hr, i, by omega, hk, hm⟩
      have h4 := meanIs_one h3 (.inl ⟨zs, hr, hf⟩)
      exact Option.some.inj h4
    · cases h
  · cases h
theorem sEs_take (s : List SigI) (k : Nat) : (sEs s).take k = sEs (s.take k) := by simp [sEs, List.map_take]
theorem oTyS_sz {s : List SigI} {q : Ky} {o : Option VT} (h : MeanIs s q o) : sz (oTyS o) ≤ 200 := by
  cases o with
  | none => simp [oTyS, ty0, sz, szs]
  | some w =>
    have hw := meanIs_vok h
    have h1 := sz_toTyS w hw.1
    have h2 := hw.cnt
    simp only [oTyS]; omega
end Go.Proofs.YtmgppdedcciogaaGreat
