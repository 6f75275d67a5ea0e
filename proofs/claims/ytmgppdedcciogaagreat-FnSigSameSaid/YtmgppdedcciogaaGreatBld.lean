/- strings.Builder. -/
import Derived.Test.YtmgppdedcciogaaGreatFacts
import Derived.Lib.Builder
import Derived.Laws.Externs
set_option linter.unusedVariables false
set_option linter.unusedSimpArgs false
namespace Go.Proofs.YtmgppdedcciogaaGreat
open Go.Abs Go.RowKit

abbrev TB : TypeId := 115
abbrev TU : TypeId := 5

set_option maxHeartbeats 1000000 in
set_option maxRecDepth 100000 in
theorem cc_fresh (b : Nat) (w : World) (h0 : w.cell? ⟨b, 0, none⟩ = some (.pointer none)) (hsh : w.shape? b = some (TB, 2)) (hfz : w.frozen? ⟨b, 0, none⟩ = false) :
    Calls Tryz.prog 120 #[.pointer (some ⟨b, 0, none⟩)] w fun e w' => e = .returned (.tuple #[]) ∧ w' = w.setCell ⟨b, 0, none⟩ (.pointer (some ⟨b, 0, none⟩)) := by
  obtain ⟨j, hj, hjs⟩ := Option.map_eq_some_iff.1 (show (Tryz.prog.info? TB).map (·.size) = some 2 by kernel_rfl)
  go_enter Tryz.func120, Tryz.ntmps120
  go_wp2
  rw [Lib.run_to_unsafe w ⟨b, 0, none⟩ Tryz.underlying113 Tryz.underlying180 hj (by rw [hjs]; decide) hsh (Nat.zero_lt_succ 1)]
  simp only [Result.andThen]
  rw [Oper.upon_value]
  go_wp2
  rw [run_callFunc_extern Tryz.func121 (by kernel_rfl) (by kernel_rfl) (by kernel_rfl) (e := Extern.AbiNoEscape.same) (by kernel_rfl)]
  rw [Lib.run_noEscape]
  simp only [Result.andThen]
  rw [Oper.upon_value]
  go_wp2
  rw [Lib.run_from_unsafe w ⟨b, 0, none⟩ Tryz.underlying180 Tryz.underlying113 hj hsh (by kernel_rfl)]
  simp only [Result.andThen]
  rw [Oper.upon_value]
  go_wp2
  go_end0
  exact ⟨rfl, rfl⟩

set_option maxHeartbeats 1000000 in
set_option maxRecDepth 100000 in
theorem cc_used (b : Nat) (w : World) (h0 : w.cell? ⟨b, 0, none⟩ = some (.pointer (some ⟨b, 0, none⟩))) :
    Calls Tryz.prog 120 #[.pointer (some ⟨b, 0, none⟩)] w fun e w' => e = .returned (.tuple #[]) ∧ w' = w := by
  obtain ⟨j, hj, hjs⟩ := Option.map_eq_some_iff.1 (show (Tryz.prog.info? TB).map (·.size) = some 2 by kernel_rfl)
  go_enter Tryz.func120, Tryz.ntmps120
  go_wp2
  rw [Lib.run_neq_ptr_same w _ Tryz.underlying113 hj]
  go_wp2
  go_end0
  exact ⟨rfl, rfl⟩

/-- the call in the abstract: behind it the builder holds its own address -/
theorem bld_cc (A : List Box) (i : Nat) (p v : AV) (hA : A.getD i .dead = .tc TB [p, v]) (hp : p = .nilp ∨ p = .ptr i 0) :
    ACalls Tryz.prog 120 [.ptr i 0] A (fun r A' => r = .tuple [] ∧ A' = A.set i (.tc TB [.ptr i 0, v])) := by
  intro G w base xs h hx
  have hil : i < A.length := by
    rcases Nat.lt_or_ge i A.length with hh | hh
    · exact hh
    · simp [List.getD, Nat.not_lt.2 hh] at hA
  have hlive : (A.getD i .dead).live = true := by rw [hA]; rfl
  obtain ⟨x, hxe, hx1⟩ := hx.one
  have hxs : xs = #[x] := by apply Array.ext'; simpa using hxe
  subst hxs
  have hb := h.box i hil
  rw [hA] at hb
  obtain ⟨c, q1, q3, q4, q5, q6⟩ := hb
  simp only [List.length_cons, List.length_nil] at q3
  cases hx1 with
  | ptr _ _ hi =>
    have e0 : w.cell? ⟨G.blk i, 0, none⟩ = some (c.getD 0 undef) := cell?_of q1 (by omega)
    have r0 := q5 0 (by simp)
    have r1 := q5 1 (by simp)
    simp only [List.getD_cons_zero, List.getD_cons_succ] at r0 r1
    have key : ∀ w', (w' = w ∧ c.getD 0 undef = .pointer (some ⟨G.blk i, 0, none⟩)) ∨ w' = w.setCell ⟨G.blk i, 0, none⟩ (.pointer (some ⟨G.blk i, 0, none⟩)) →
        ∃ x v' A' G', Ending.returned (.tuple #[]) = .returned x ∧ (v' = .tuple [] ∧ A' = A.set i (.tc TB [.ptr i 0, v])) ∧ RV G' w' v' x ∧ HRel G' A' w' base ∧ Ext G w G' w' ∧ Below base w w' := fun w' hw => by
      refine ⟨_, _, _, G, rfl, ⟨rfl, rfl⟩, .tuple [] #[] rfl (fun i hi => by simp at hi), ?_⟩
      rcases hw with ⟨rfl, hc⟩ | rfl
      · have hs := h.set (w' := w') (.tc TB [.ptr i 0, v]) hil hlive ⟨rfl, rfl, rfl, Nat.le_refl _, fun _ _ _ => rfl⟩ (fun o ho => absurd ho (q6 o)) (fun o ho => absurd ho (q6 o)) fun e' => by
          refine ⟨c, q1, by simpa using q3, q4, fun j hj => ?_, q6⟩
          match j, hj with
          | 0, _ => rw [hc]; exact .ptr i 0 hi
          | 1, _ => exact r1
        exact ⟨hs.1, hs.2, Below.refl _ _⟩
      · have hn := heap_setCell_same w (G.blk i) 0 c TB (.pointer (some ⟨G.blk i, 0, none⟩)) q1
        have hk : Kept (fun b => b = G.blk i) w (w.setCell ⟨G.blk i, 0, none⟩ (.pointer (some ⟨G.blk i, 0, none⟩))) := ⟨rfl, rfl, rfl, by simp [World.setCell], fun k _ hk => heap_setCell_other _ _ _ _ hk⟩
        have hs := h.set (.tc TB [.ptr i 0, v]) hil hlive hk (fun o ho => absurd ho (q6 o)) (fun o ho => absurd ho (q6 o)) fun e' => by
          refine ⟨_, hn, by simpa using q3, fun y hy => ?_, fun j hj => ?_, q6⟩
          · rcases Array.mem_or_eq_of_mem_setIfInBounds hy with hy | hy
            · exact q4 y hy
            · rw [hy]; rfl
          · match j, hj with
            | 0, _ =>
              have : (c.setIfInBounds 0 (.pointer (some ⟨G.blk i, 0, none⟩))).getD 0 undef = .pointer (some ⟨G.blk i, 0, none⟩) := by
                have : 0 < c.size := by omega
                simp [Array.getD, this]
              rw [this]; exact .ptr i 0 hi
            | 1, _ =>
              have : (c.setIfInBounds 0 (.pointer (some ⟨G.blk i, 0, none⟩))).getD 1 undef = c.getD 1 undef := by
                have : 1 < c.size := by omega
                simp [Array.getD, this]
              rw [this]; exact r1.mono e'
        exact ⟨hs.1, hs.2, hk.below (fun b hb => by rw [hb]; exact (h.bnd i hil hlive).1) h.low⟩
    rcases hp with rfl | rfl
    · have hc0 : c.getD 0 undef = .pointer none := by
        generalize c.getD 0 undef = q at r0
        cases r0; rfl
      refine (cc_fresh (G.blk i) w (by rw [e0, hc0]) (by simp [World.shape?, q1, q3]) (frozen?_of q1 (by simp))).mono fun e w' ⟨h1, h2⟩ => ?_
      subst h1
      exact key w' (.inr h2)
    · have hc0 : c.getD 0 undef = .pointer (some ⟨G.blk i, 0, none⟩) := by
        generalize c.getD 0 undef = q at r0
        cases r0; rfl
      refine (cc_used (G.blk i) w (by rw [e0, hc0])).mono fun e w' ⟨h1, h2⟩ => ?_
      subst h1
      exact key w' (.inl ⟨h2, hc0⟩)
end Go.Proofs.YtmgppdedcciogaaGreat
