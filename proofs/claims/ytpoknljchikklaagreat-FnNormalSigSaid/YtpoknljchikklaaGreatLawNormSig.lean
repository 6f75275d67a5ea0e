/- Whatever the signature that is drawn: NormalSig answers as the model says; the normal form of a normal form is the same; each name of the signature means the same in it and in its normal form. No condition beside the row's own. -/
import Derived.Test.YtpoknljchikklaaGreatN16
set_option linter.unusedVariables false
set_option linter.unusedSimpArgs false
namespace Go.Proofs.YtpoknljchikklaaGreat
open Go.Abs Go.RowKit Go.ChangeShapes Go.WideShapes Go.ChangeAt Go.ChangeMaps

theorem mean_again {s : List SigI} {zs : List VI} (h : RdN s (some zs)) {q : Ky} {o : Option VT} (ho : MeanIs s q o) : MeanIs (zs.map siOf) q o := by
  obtain ⟨o', ho'⟩ := meanIs_ex (zs.map siOf) q
  rw [meanIs_find h ho, ← meanIs_find (rdN_again h) ho']
  exact ho'

set_option maxRecDepth 100000 in
set_option maxHeartbeats 8000000 in
theorem normSig_true (bs : List UInt8) : ACalls Tryz.prog 8 [.aslice (byteRows bs)] [] (fun v _ => v = .bool true) := by
  by_cases hb : 1048576 < bs.length
  · have e1 : decide ((1048576 : Int) < bs.length) = true := decide_eq_true (by omega)
    refine acalls_enter (cf := cf 134 [0, 2, 3, 4, 5, 6, 7, 8, 9, 10, 11, 12, 13, 14, 15, 16, 17, 18, 21, 46, 67, 71, 133]) foll Tryz.func8 Tryz.ntmps8 (by simp [cf]) ?_
    simp only [Tryz.f8, EnterK_some, zW, zX, zD, builtinA, isLeaf, const1, ustrA, simprocAttr, ti3, ti4, ti5, ti9, ti22, ti23, ti31, ti63, ca13, ca37, ca38, ca39, ca40, ca41, ca42, cf, Tryz.results8]
    simp only [zW, zX, zD, builtinA, isLeaf, const1, ustrA, simprocAttr, ti3, ti4, ti5, ti9, ti22, ti23, ti31, ti63, ca13, ca37, ca38, ca39, ca40, ca41, ca42, cf, Tryz.results8, byteRows_length, e1]
  have e1 : decide ((1048576 : Int) < bs.length) = false := decide_eq_false (by omega)
  refine acalls_enter (cf := cf 134 [0, 2, 3, 4, 5, 6, 7, 8, 9, 10, 11, 12, 13, 14, 15, 16, 17, 18, 21, 46, 67, 71, 133]) foll Tryz.func8 Tryz.ntmps8 (by simp [cf]) ?_
  simp only [Tryz.f8, EnterK_some, zW, zX, zD, builtinA, isLeaf, const1, ustrA, simprocAttr, ti3, ti4, ti5, ti9, ti22, ti23, ti31, ti63, ca13, ca37, ca38, ca39, ca40, ca41, ca42, cf, Tryz.results8]
  simp only [zW, zX, zD, builtinA, isLeaf, const1, ustrA, simprocAttr, ti3, ti4, ti5, ti9, ti22, ti23, ti31, ti63, ca13, ca37, ca38, ca39, ca40, ca41, ca42, cf, Tryz.results8, byteRows_length, e1]
  refine callK_intro (by simp only [zW, zX, zD, builtinA, isLeaf, const1, ustrA, simprocAttr]; rfl) (spec_DrawNormalSig bs _) ?_ rfl
  rintro v A' ⟨s, rfl, hs, hsm, rfl⟩
  obtain ⟨hso, hsz⟩ := smx_all hs hsm
  obtain ⟨o, ho⟩ := rdN_ex s
  obtain ⟨hxl, hxm⟩ := nr_small (fun x hx => (hsm x hx).1) ho
  obtain ⟨hxo, hxz⟩ := smx_all (s := nrX o) (by omega) hxm
  have hspec : ∀ A, ACalls Tryz.prog 39 [.slice (sEs s)] A (fun r A' => r = .tuple [.slice (sEs (nrX o)), .bool o.isSome] ∧ A' = A) := fun A => (spec_NormalSig s (by omega) hso A).mono fun r A' h => by
    obtain ⟨o', h1, h2, h3⟩ := h
    rw [rdN_oo h1 ho] at h2
    exact ⟨by rw [h2]; cases o <;> rfl, h3⟩
  have himpl : ∀ A, ACalls Tryz.prog 38 [.slice (sEs s)] A (SgNew A (nrX o) o.isSome) := sg_call fun A => (impl_NormalSig s (by omega) hso A).mono fun r A' h => by
    obtain ⟨o', h1, h2⟩ := h
    rw [rdN_oo h1 ho] at h2
    exact h2
  have hsame : ∀ A, ACalls Tryz.prog 13 [.slice (sEs (nrX o)), .slice (sEs (nrX o))] A (fun r A' => r = .bool true ∧ A' = A) := fun A => (impl_SigSame (nrX o) (nrX o) hxz hxz A).mono fun r A' h => by rw [sisB_refl] at h; exact h
  have hne : ∀ x : Bool, decide (¬ x = x) = false := fun x => by simp
  have hlen := sEs_length s
  simp only [zW, zX, zD, builtinA, isLeaf, const1, ustrA, simprocAttr, ti3, ti4, ti5, ti9, ti22, ti23, ti31, ti63, ca13, ca37, ca38, ca39, ca40, ca41, ca42, cf, Tryz.results8]
  refine callO_intro (himpl _) ?_
  rintro r A1 ⟨B1, v1, S1, hA1, hB1, rfl, hv1, hK1, hN1, hR1⟩
  clear hA1 hB1 hR1
  simp only [zW, zX, zD, builtinA, isLeaf, const1, ustrA, simprocAttr, ti3, ti4, ti5, ti9, ti22, ti23, ti31, ti63, ca13, ca37, ca38, ca39, ca40, ca41, ca42, cf, Tryz.results8]
  refine callO_intro (hspec _) ?_
  rintro r A2 ⟨rfl, rfl⟩
  simp only [zW, zX, zD, builtinA, isLeaf, const1, ustrA, simprocAttr, ti3, ti4, ti5, ti9, ti22, ti23, ti31, ti63, ca13, ca37, ca38, ca39, ca40, ca41, ca42, cf, Tryz.results8, hne]
  refine callO_intro (borrow0 (.cons hK1.view (.cons (.leaf _ rfl) .nil)) rfl hsame) ?_
  rintro r A' ⟨rfl, rfl⟩
  cases o with
  | none =>
    simp only [zW, zX, zD, builtinA, isLeaf, const1, ustrA, simprocAttr, ti3, ti4, ti5, ti9, ti22, ti23, ti31, ti63, ca13, ca37, ca38, ca39, ca40, ca41, ca42, cf, Tryz.results8, hne, Option.isSome_none]
    refine callO_intro (borrow0 (.cons hK1.view (.cons (.leaf _ rfl) .nil)) rfl hsame) ?_
    rintro r A' ⟨rfl, rfl⟩
    simp only [zW, zX, zD, builtinA, isLeaf, const1, ustrA, simprocAttr, ti3, ti4, ti5, ti9, ti22, ti23, ti31, ti63, ca13, ca37, ca38, ca39, ca40, ca41, ca42, cf, Tryz.results8]
  | some zs =>
    have hra := rdN_again ho
    have hagain : ∀ A, ACalls Tryz.prog 38 [.slice (sEs (nrX (some zs)))] A (SgNew A (nrX (some zs)) true) := sg_call fun A => (impl_NormalSig (nrX (some zs)) (by omega) hxo A).mono fun r A' h => by
      obtain ⟨o', h1, h2⟩ := h
      rw [rdN_oo h1 hra] at h2
      exact h2
    have hmean := @mean_again s zs ho
    have hxs : nrX (some zs) = zs.map siOf := rfl
    rw [← hxs] at hmean
    generalize nrX (some zs) = xs at *
    simp only [zW, zX, zD, builtinA, isLeaf, const1, ustrA, simprocAttr, ti3, ti4, ti5, ti9, ti22, ti23, ti31, ti63, ca13, ca37, ca38, ca39, ca40, ca41, ca42, cf, Tryz.results8, hne, Option.isSome_some]
    refine callO_intro (sg_view hagain (.cons hK1.view .nil)) ?_
    rintro r A2 ⟨B2, v2, S2, hA2, hB2, rfl, hv2, hK2, hN2, hR2⟩
    have hK1' : OwnI A2 xs v1 S1 := hK1.frame fun i hi => by rw [hA2]; exact Abs.getD_append_left (hK1.low i hi)
    clear hA2 hB2 hR2 hK1
    simp only [zW, zX, zD, builtinA, isLeaf, const1, ustrA, simprocAttr, ti3, ti4, ti5, ti9, ti22, ti23, ti31, ti63, ca13, ca37, ca38, ca39, ca40, ca41, ca42, cf, Tryz.results8]
    refine callO_intro (borrow0 (.cons hK2.view (.cons hK1'.view .nil)) rfl hsame) ?_
    rintro r A' ⟨rfl, rfl⟩
    clear hK2
    have hKv : ∀ Y, View (A' ++ Y) v1 (.slice (sEs xs)) := fun Y => (hK1'.frame (A' := A' ++ Y) fun i hi => Abs.getD_append_left (hK1'.low i hi)).view
    have hbne : ∀ x : Bool, (x != x) = false := fun x => by simp
    simp only [zW, zX, zD, builtinA, isLeaf, const1, ustrA, simprocAttr, ti3, ti4, ti5, ti9, ti22, ti23, ti31, ti63, ca13, ca37, ca38, ca39, ca40, ca41, ca42, cf, Tryz.results8]
    refine aloop_intro [3, 4, 10] (fun e K => ∃ (i : Nat) (Y : List Box), i ≤ s.length ∧ e = [(3, .slice (sEs s)), (4, v1), (10, .int .i64 i)] ∧ K = A' ++ Y) (fun e _ => s.length - (intOf (Abs.look 10 e)).toNat) ?_ ?_
    · simp only [zW, zX, zD, builtinA, isLeaf, const1, ustrA, simprocAttr, ti3, ti4, ti5, ti9, ti22, ti23, ti31, ti63, ca13, ca37, ca38, ca39, ca40, ca41, ca42, cf, Tryz.results8]
      exact ⟨0, [], by omega, rfl, by simp⟩
    · rintro e K ⟨i, Y, hi, rfl, rfl⟩
      simp only [zW, zX, zD, builtinA, isLeaf, const1, ustrA, simprocAttr, ti3, ti4, ti5, ti9, ti22, ti23, ti31, ti63, ca13, ca37, ca38, ca39, ca40, ca41, ca42, cf, Tryz.results8, hlen]
      refine condK_intro (fun h2 => ?_) (fun h2 => ?_)
      · have hi2 : i < s.length := by simpa using h2
        have hi1 : IntKind.i64.wrap ((i : Int) + 1) = ((i + 1 : Nat) : Int) := by rw [wrap64 (by omega) (by omega)]; rfl
        have pi : (0 : Int) ≤ (i : Int) ∧ (i : Int) < (s.length : Int) := ⟨by omega, by omega⟩
        have hsg := sEs_getD hi2
        rw [sE] at hsg
        generalize (s.getD i si0).name = n at *
        generalize (s.getD i si0).kind = kk at *
        generalize (s.getD i si0).typ = tt at *
        obtain ⟨o1, ho1⟩ := meanIs_ex s (true, n)
        obtain ⟨o3, ho3⟩ := meanIs_ex s (false, n)
        obtain ⟨k1, m1, n1, ks1, hρ1⟩ : ∃ k m n ks, oTyS o1 = .mk k m n ks := by cases oTyS o1; exact ⟨_, _, _, _, rfl⟩
        obtain ⟨k3, m3, n3, ks3, hρ3⟩ : ∃ k m n ks, oTyS o3 = .mk k m n ks := by cases oTyS o3; exact ⟨_, _, _, _, rfl⟩
        have hs1 := oTyS_sz ho1
        have hs3 := oTyS_sz ho3
        have hF1 : ∀ A, ACalls Tryz.prog 40 [.slice (sEs s), .str n] A (OutS A k1 m1 n1 ks1 o1.isSome) := fun A => (new_call (fun A => (impl_FindVal s (by omega) hso n A).mono fun r A' h => by
          obtain ⟨o', h1, h2⟩ := h
          rw [meanIs_one h1 ho1] at h2
          exact h2) A).mono fun r A' h => outS_of hρ1 h
        have hF2 : ∀ A, ACalls Tryz.prog 40 [.slice (sEs xs), .str n] A (SubNew A o1) := new_call fun A => (impl_FindVal xs (by omega) hxo n A).mono fun r A' h => by
          obtain ⟨o', h1, h2⟩ := h
          rw [meanIs_one h1 (hmean ho1)] at h2
          exact h2
        have hF3 : ∀ A, ACalls Tryz.prog 41 [.slice (sEs s), .str n] A (OutS A k3 m3 n3 ks3 o3.isSome) := fun A => (new_call (fun A => (impl_FindType s (by omega) hso n A).mono fun r A' h => by
          obtain ⟨o', h1, h2⟩ := h
          rw [meanIs_one h1 ho3] at h2
          exact h2) A).mono fun r A' h => outS_of hρ3 h
        have hF4 : ∀ A, ACalls Tryz.prog 41 [.slice (sEs xs), .str n] A (SubNew A o3) := new_call fun A => (impl_FindType xs (by omega) hxo n A).mono fun r A' h => by
          obtain ⟨o', h1, h2⟩ := h
          rw [meanIs_one h1 (hmean ho3)] at h2
          exact h2
        have hT1 : ∀ A, ACalls Tryz.prog 42 [.agg (enc (.mk k1 m1 n1 ks1)), .agg (enc (.mk k1 m1 n1 ks1))] A (fun r A' => r = .bool true ∧ A' = A) := fun A => by
          have h := impl_TypeSame (.mk k1 m1 n1 ks1) (.mk k1 m1 n1 ks1) (by rw [← hρ1]; omega) (by rw [← hρ1]; omega) A
          rwa [decide_eq_true rfl] at h
        have hT3 : ∀ A, ACalls Tryz.prog 42 [.agg (enc (.mk k3 m3 n3 ks3)), .agg (enc (.mk k3 m3 n3 ks3))] A (fun r A' => r = .bool true ∧ A' = A) := fun A => by
          have h := impl_TypeSame (.mk k3 m3 n3 ks3) (.mk k3 m3 n3 ks3) (by rw [← hρ3]; omega) (by rw [← hρ3]; omega) A
          rwa [decide_eq_true rfl] at h
        simp only [zW, zX, zD, builtinA, isLeaf, const1, ustrA, simprocAttr, ti3, ti4, ti5, ti9, ti22, ti23, ti31, ti63, ca13, ca37, ca38, ca39, ca40, ca41, ca42, cf, Tryz.results8, hlen, hsg, enc_length]
        refine ⟨pi, ?_⟩
        refine callO_intro (hF1 _) ?_
        rintro r A5 ⟨B5, v5, S5, hA5, rfl, hK5, hN5, hR5⟩
        have c5 : ∀ Z, (A5 ++ [Box.cells [.int .i64 k1, .str m1, .str n1, v5]] ++ Z).getD A5.length .dead = .cells [.int .i64 k1, .str m1, .str n1, v5] := fun Z => by
          rw [Abs.getD_append_left (by simp), Abs.getD_append_right (Nat.le_refl _)]; simp
        have hK5' : ∀ Z, OwnK (A5 ++ [Box.cells [.int .i64 k1, .str m1, .str n1, v5]] ++ Z) ks1 v5 S5 := fun Z => hK5.frame fun i hi => by
          rw [List.append_assoc]; exact Abs.getD_append_left (hR5 i hi).2
        obtain ⟨Y5, hY5⟩ : ∃ Y5, A5 ++ [Box.cells [.int .i64 k1, .str m1, .str n1, v5]] = A' ++ Y5 := ⟨_, by rw [hA5, List.append_assoc, List.append_assoc]⟩
        rw [hY5] at c5 hK5'
        clear hA5 hK5 hR5 hN5
        simp only [zW, zX, zD, builtinA, isLeaf, const1, ustrA, simprocAttr, ti3, ti4, ti5, ti9, ti22, ti23, ti31, ti63, ca13, ca37, ca38, ca39, ca40, ca41, ca42, cf, Tryz.results8, hlen, hsg, enc_length]
        refine ⟨pi, ?_⟩
        rw [hY5]
        clear hY5
        refine callO_intro (new_view hF2 (.cons (hKv Y5) (.cons (.leaf _ rfl) .nil))) ?_
        intro r A6 hA6r
        obtain ⟨B6, v6, S6, hA6, rfl, hK6, hN6, hR6⟩ := outS_of hρ1 hA6r
        clear hA6r
        have c6 : ∀ Z, (A6 ++ [Box.cells [.int .i64 k1, .str m1, .str n1, v6]] ++ Z).getD A6.length .dead = .cells [.int .i64 k1, .str m1, .str n1, v6] := fun Z => by
          rw [Abs.getD_append_left (by simp), Abs.getD_append_right (Nat.le_refl _)]; simp
        have hK6' : ∀ Z, OwnK (A6 ++ [Box.cells [.int .i64 k1, .str m1, .str n1, v6]] ++ Z) ks1 v6 S6 := fun Z => hK6.frame fun i hi => by
          rw [List.append_assoc]; exact Abs.getD_append_left (hR6 i hi).2
        obtain ⟨Y6, hY6⟩ : ∃ Y6, A6 ++ [Box.cells [.int .i64 k1, .str m1, .str n1, v6]] = A' ++ Y5 ++ Y6 := ⟨_, by rw [hA6, List.append_assoc]⟩
        rw [hY6] at c6 hK6'
        clear hA6 hK6 hR6 hN6
        simp only [zW, zX, zD, builtinA, isLeaf, const1, ustrA, simprocAttr, ti3, ti4, ti5, ti9, ti22, ti23, ti31, ti63, ca13, ca37, ca38, ca39, ca40, ca41, ca42, cf, Tryz.results8, hlen, hsg, enc_length]
        refine ⟨pi, ?_⟩
        rw [hY6]
        clear hY6
        refine callO_intro (hF3 _) ?_
        rintro r A7 ⟨B7, v7, S7, hA7, rfl, hK7, hN7, hR7⟩
        have c7 : ∀ Z, (A7 ++ [Box.cells [.int .i64 k3, .str m3, .str n3, v7]] ++ Z).getD A7.length .dead = .cells [.int .i64 k3, .str m3, .str n3, v7] := fun Z => by
          rw [Abs.getD_append_left (by simp), Abs.getD_append_right (Nat.le_refl _)]; simp
        have hK7' : ∀ Z, OwnK (A7 ++ [Box.cells [.int .i64 k3, .str m3, .str n3, v7]] ++ Z) ks3 v7 S7 := fun Z => hK7.frame fun i hi => by
          rw [List.append_assoc]; exact Abs.getD_append_left (hR7 i hi).2
        obtain ⟨Y7, hY7⟩ : ∃ Y7, A7 ++ [Box.cells [.int .i64 k3, .str m3, .str n3, v7]] = A' ++ Y5 ++ Y6 ++ Y7 := ⟨_, by rw [hA7, List.append_assoc]⟩
        rw [hY7] at c7 hK7'
        clear hA7 hK7 hR7 hN7
        simp only [zW, zX, zD, builtinA, isLeaf, const1, ustrA, simprocAttr, ti3, ti4, ti5, ti9, ti22, ti23, ti31, ti63, ca13, ca37, ca38, ca39, ca40, ca41, ca42, cf, Tryz.results8, hlen, hsg, enc_length]
        refine ⟨pi, ?_⟩
        rw [hY7]
        clear hY7
        have hKw : View (A' ++ Y5 ++ Y6 ++ Y7) v1 (.slice (sEs xs)) := by
          have := hKv (Y5 ++ (Y6 ++ Y7))
          rwa [← List.append_assoc, ← List.append_assoc] at this
        refine callO_intro (new_view hF4 (.cons hKw (.cons (.leaf _ rfl) .nil))) ?_
        intro r A8 hA8r
        obtain ⟨B8, v8, S8, hA8, rfl, hK8, hN8, hR8⟩ := outS_of hρ3 hA8r
        clear hA8r
        have c8 : (A8 ++ [Box.cells [.int .i64 k3, .str m3, .str n3, v8]]).getD A8.length .dead = .cells [.int .i64 k3, .str m3, .str n3, v8] := by
          rw [Abs.getD_append_right (Nat.le_refl _)]; simp
        have hK8' : OwnK (A8 ++ [Box.cells [.int .i64 k3, .str m3, .str n3, v8]]) ks3 v8 S8 := hK8.frame fun i hi => Abs.getD_append_left (hR8 i hi).2
        obtain ⟨Y8, hY8⟩ : ∃ Y8, A8 ++ [Box.cells [.int .i64 k3, .str m3, .str n3, v8]] = A' ++ Y5 ++ Y6 ++ Y7 ++ Y8 := ⟨B8 ++ [Box.cells [.int .i64 k3, .str m3, .str n3, v8]], by rw [hA8]; simp only [List.append_assoc]⟩
        rw [hY8] at c8 hK8'
        clear hA8 hK8 hR8 hN8
        simp only [zW, zX, zD, builtinA, isLeaf, const1, ustrA, simprocAttr, ti3, ti4, ti5, ti9, ti22, ti23, ti31, ti63, ca13, ca37, ca38, ca39, ca40, ca41, ca42, cf, Tryz.results8, hne, hbne, hlen, hsg, enc_length]
        rw [hY8]
        clear hY8
        simp only [List.append_assoc] at c5 c6 c7 c8 hK5' hK6' hK7' hK8'
        simp only [zW, zX, zD, builtinA, isLeaf, const1, ustrA, simprocAttr, ti3, ti4, ti5, ti9, ti22, ti23, ti31, ti63, ca13, ca37, ca38, ca39, ca40, ca41, ca42, cf, Tryz.results8, hne, hbne, c5, c6, c7, c8, enc_length, enc_take, enc_drop, frzL_enc, enc_closed, Option.map_some]
        refine callO_intro (borrowI (.cons ((hK5' _).viewT k1 m1 n1) (.cons ((hK6' _).viewT k1 m1 n1) .nil)) rfl hT1) ?_
        rintro r A0 ⟨rfl, hA⟩
        have hA := hA.symm
        subst hA
        simp only [zW, zX, zD, builtinA, isLeaf, const1, ustrA, simprocAttr, ti3, ti4, ti5, ti9, ti22, ti23, ti31, ti63, ca13, ca37, ca38, ca39, ca40, ca41, ca42, cf, Tryz.results8, c7, c8, enc_length, enc_take, enc_drop, frzL_enc, enc_closed, Option.map_some]
        refine callO_intro (borrowI (.cons ((hK7' _).viewT k3 m3 n3) (.cons (hK8'.viewT k3 m3 n3) .nil)) rfl hT3) ?_
        rintro r A0 ⟨rfl, hA⟩
        have hA := hA.symm
        subst hA
        simp only [zW, zX, zD, builtinA, isLeaf, const1, ustrA, simprocAttr, ti3, ti4, ti5, ti9, ti22, ti23, ti31, ti63, ca13, ca37, ca38, ca39, ca40, ca41, ca42, cf, Tryz.results8, hi1, LoopK_eq]
        refine ⟨⟨i + 1, _, by omega, rfl, rfl⟩, ?_⟩
        simp only [intOf]; omega
      · simp only [zW, zX, zD, builtinA, isLeaf, const1, ustrA, simprocAttr, ti3, ti4, ti5, ti9, ti22, ti23, ti31, ti63, ca13, ca37, ca38, ca39, ca40, ca41, ca42, cf, Tryz.results8]
theorem normSig_rec : ∀ t ∈ Tryz.f8.params.toList, Tryz.prog.readableRec t = true ∧ t < Tryz.prog.types.size := by
  rw [Tryz.params8]
  intro t ht
  simp at ht
  subst ht
  exact ⟨by kernel_rfl, of_decide_eq_true (by kernel_rfl)⟩
set_option maxRecDepth 100000 in
theorem normSig_lifted (os : Os) (started : os.Started) (H : Type) (enc' : TypeId × Value → H) :
    ReturnsInHanded {} Tryz.checked os 8 .any (Rows.fnNormalSigSpec.pre6 enc' Tryz.prog Tryz.f8 Rows.fnNormalSigRow.domain false) (Rows.fnNormalSigSpec.post enc' Tryz.prog Tryz.f8 false true false false) := by
  refine returnsInHanded_of_change (C := Tryz.checked) ownk started (by kernel_rfl) Tryz.func8
    (ChangeSpec.witness6 (enc := enc') (C := Tryz.checked) false ⟨#[], #[.slice none 0 0], []⟩ 8 (by kernel_rfl) (by kernel_rfl) (by kernel_rfl) (by kernel_rfl)) ?_
  intro W base args ds gs before hval0 hW hcnd _
  have hval : ∀ (j : Nat) t v, Tryz.f8.params[j]? = some t → args[j]? = some v → Value.okWide Tryz.prog W .any base t v := hval0
  have hW' := hW
  obtain ⟨p, q, hA0, hV, rfl, hfz, hnd⟩ := hW
  have hA : DataW.TrodAll enc' Tryz.prog W 0 (fun _ => true) true Tryz.f8.params.toList args.toList ds p := hA0
  rw [Tryz.params8] at hA hval
  have hlt := hA.lt
  obtain ⟨v0, d0, rfl, rfl, h0⟩ := trodAll_one hA
  obtain ⟨rfl, rfl⟩ := trodVars_none hV
  obtain ⟨x0, r0⟩ := rv_bytes Tryz.underlying22 Tryz.underlying5 (by kernel_rfl) (hval 0 22 v0 rfl rfl) h0 (fun x hx => hlt x (by simp [hx]))
  refine (law_calls (normSig_true x0) (.cons r0 .nil)).mono fun e W' ⟨he, hb⟩ => ?_
  subst he
  exact ⟨_, rfl, law_post laid normSig_rec rfl Tryz.underlying4 (by kernel_rfl) ⟨rfl, rfl⟩ rfl hW' hb⟩
theorem normSig_facts : joinedFacts Tryz.pinned.checked.prog 8 Tryz.f8 Rows.fnNormalSigSpec Rows.fnNormalSigRow = true := by kernel_rfl
theorem normSig_holds : Rows.FnNormalSigSaid :=
  OpenClaim.holds_of_wide 8 Tryz.f8 rfl rfl rfl rfl rfl rfl rfl ⟨rfl, rfl, rfl, rfl, rfl⟩ rfl rfl rfl rfl rfl (by kernel_rfl) Tryz.func8 normSig_facts
    (of_decide_eq_true (by kernel_rfl)) (by unfold Func.isWrapper; first | (rw [if_pos (by decide +kernel)]; kernel_rfl) | (rw [if_neg (by decide +kernel)]; exact ⟨rfl, rfl⟩))
    (fun os started H enc' _ => normSig_lifted os started H enc')
end Go.Proofs.YtpoknljchikklaaGreat

