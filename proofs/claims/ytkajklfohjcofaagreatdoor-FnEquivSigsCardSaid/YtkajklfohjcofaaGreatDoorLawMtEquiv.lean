/- Whatever the two signatures that are drawn: EquivSigs answers as the model says, and the same the other way round; equivalent signatures have values and types of the same names; each of them is equivalent to itself. No condition beside the row's own. -/
import Derived.Test.YtkajklfohjcofaaGreatDoorK17
set_option linter.unusedVariables false
set_option linter.unusedSimpArgs false
namespace Go.Proofs.YtkajklfohjcofaaGreatDoor
open Go.Abs Go.RowKit Go.ChangeShapes Go.WideShapes Go.ChangeAt Go.ChangeMaps

set_option maxRecDepth 100000 in
set_option maxHeartbeats 4000000 in
theorem mtEquiv_true (bs : List UInt8) : ACalls Tryz.prog 11 [.aslice (byteRows bs)] [] (fun v _ => v = .bool true) := by
  refine acalls_enter (cf := cf 116 [0, 2, 3, 4, 5, 6, 8, 10, 12, 14, 17, 41, 57, 107]) foll Tryz.func11 Tryz.ntmps11 (by simp [cf]) ?_
  simp only [Tryz.f11, EnterK_some, zW, zX, zD, builtinA, isLeaf, const1, ustrA, simprocAttr, ti3, ti4, ti5, ti9, ti25, ti34, ti45, ti49, ca20, ca21, ca34, ca37, ca38, cf, Tryz.results11]
  by_cases hb : 1048576 < bs.length
  · have e1 : decide ((1048576 : Int) < bs.length) = true := decide_eq_true (by omega)
    simp only [zW, zX, zD, builtinA, isLeaf, const1, ustrA, simprocAttr, ti3, ti4, ti5, ti9, ti25, ti34, ti45, ti49, ca20, ca21, ca34, ca37, ca38, cf, Tryz.results11, byteRows_length, e1]
  · have e1 : decide ((1048576 : Int) < bs.length) = false := decide_eq_false (by omega)
    simp only [zW, zX, zD, builtinA, isLeaf, const1, ustrA, simprocAttr, ti3, ti4, ti5, ti9, ti25, ti34, ti45, ti49, ca20, ca21, ca34, ca37, ca38, cf, Tryz.results11, byteRows_length, e1]
    refine callK_intro (by simp only [zW, zX, zD, builtinA, isLeaf, const1, ustrA, simprocAttr]; rfl) (spec_DrawEquivSigs bs _) ?_ rfl
    rintro v A' ⟨s, t, rfl, hs, hsm, ht, htm, rfl⟩
    obtain ⟨hso, hsz⟩ := smx_all hs hsm
    obtain ⟨hto, htz⟩ := smx_all ht htm
    obtain ⟨c, p, hM⟩ := mtIs_ex s t
    obtain ⟨c', p', hM'⟩ := mtIs_ex t s
    have hspec := fun A => spec_EquivSigsF hM hM' (by omega) hso (by omega) hto A
    have himpl := fun A => impl_EquivSigsF hM hM' (by omega) hso (by omega) hto A
    have himpl' := fun A => impl_EquivSigsF hM' hM (by omega) hto (by omega) hso A
    have hcm : (decide (c' = 0) && decide (c = 0)) = (decide (c = 0) && decide (c' = 0)) := Bool.and_comm _ _
    rw [hcm] at himpl'
    have hne : ∀ x : Bool, decide (¬ x = x) = false := fun x => by simp
    have hbeq : ∀ x : Bool, (x == x) = true := fun x => by simp
    have hbne : ∀ x : Bool, (x != x) = false := fun x => by simp
    cases hq : (decide (c = 0) && decide (c' = 0)) with
    | false =>
      rw [hq] at hspec himpl himpl'
      clear hM hM'
      simp only [zW, zX, zD, builtinA, isLeaf, const1, ustrA, simprocAttr, ti3, ti4, ti5, ti9, ti25, ti34, ti45, ti49, ca20, ca21, ca34, ca37, ca38, cf, Tryz.results11]
      refine callO_intro (himpl _) ?_
      rintro r A' ⟨rfl, rfl⟩
      simp only [zW, zX, zD, builtinA, isLeaf, const1, ustrA, simprocAttr, ti3, ti4, ti5, ti9, ti25, ti34, ti45, ti49, ca20, ca21, ca34, ca37, ca38, cf, Tryz.results11]
      refine callO_intro (hspec _) ?_
      rintro r A' ⟨rfl, rfl⟩
      simp only [zW, zX, zD, builtinA, isLeaf, const1, ustrA, simprocAttr, ti3, ti4, ti5, ti9, ti25, ti34, ti45, ti49, ca20, ca21, ca34, ca37, ca38, cf, Tryz.results11, hne, hbne]
      refine callO_intro (himpl' _) ?_
      rintro r A' ⟨rfl, rfl⟩
      simp only [zW, zX, zD, builtinA, isLeaf, const1, ustrA, simprocAttr, ti3, ti4, ti5, ti9, ti25, ti34, ti45, ti49, ca20, ca21, ca34, ca37, ca38, cf, Tryz.results11, hne, hbne]
      refine callO_intro (hspec _) ?_
      rintro r A' ⟨rfl, rfl⟩
      simp only [zW, zX, zD, builtinA, isLeaf, const1, ustrA, simprocAttr, ti3, ti4, ti5, ti9, ti25, ti34, ti45, ti49, ca20, ca21, ca34, ca37, ca38, cf, Tryz.results11, hne, hbeq]
      refine callO_intro (himpl' _) ?_
      rintro r A' ⟨rfl, rfl⟩
      simp only [zW, zX, zD, builtinA, isLeaf, const1, ustrA, simprocAttr, ti3, ti4, ti5, ti9, ti25, ti34, ti45, ti49, ca20, ca21, ca34, ca37, ca38, cf, Tryz.results11, hne, hbeq]
      done
    | true =>
      rw [hq] at hspec himpl himpl'
      obtain ⟨rfl, rfl⟩ : c = 0 ∧ c' = 0 := by simpa using hq
      obtain ⟨hs', ws', hr1, hr2, _⟩ := mt_keys hM
      have hself := fun A => impl_EquivSigsF (mt_self hr1 hr1) (mt_self hr1 hr1) (by omega) hso (by omega) hso A
      have hself' := fun A => impl_EquivSigsF (mt_self hr2 hr2) (mt_self hr2 hr2) (by omega) hto (by omega) hto A
      have hV : ∀ (x : List SigI) (n : List UInt8) (o : Option VT), x.length ≤ 9 → (∀ y ∈ x, y.Ok ∧ sz y.typ ≤ 1048576) → MeanIs x (true, n) o → ∀ A, ACalls Tryz.prog 34 [.slice (sEs x), .str n] A (fun r A' => ∃ k m nn w, r = .tuple [.agg [.int .i64 k, .str m, .str nn, w], .bool o.isSome]) := fun x n o hx hxo ho A => by
        obtain ⟨k1, m1, n1, ks1, hρ1⟩ : ∃ k m n ks, oTyS o = .mk k m n ks := by cases oTyS o; exact ⟨_, _, _, _, rfl⟩
        refine (new_call (fun A => (impl_FindVal x (by omega) hxo n A).mono fun r A' h => by
          obtain ⟨o', h1, h2⟩ := h
          rw [meanIs_one h1 ho] at h2
          exact h2) A).mono fun r A' h => ?_
        obtain ⟨B5, v5, S5, hA5, rfl, _⟩ := outS_of hρ1 h
        exact ⟨_, _, _, _, rfl⟩
      have hT : ∀ (x : List SigI) (n : List UInt8) (o : Option VT), x.length ≤ 9 → (∀ y ∈ x, y.Ok ∧ sz y.typ ≤ 1048576) → MeanIs x (false, n) o → ∀ A, ACalls Tryz.prog 38 [.slice (sEs x), .str n] A (fun r A' => ∃ k m nn w, r = .tuple [.agg [.int .i64 k, .str m, .str nn, w], .bool o.isSome]) := fun x n o hx hxo ho A => by
        obtain ⟨k1, m1, n1, ks1, hρ1⟩ : ∃ k m n ks, oTyS o = .mk k m n ks := by cases oTyS o; exact ⟨_, _, _, _, rfl⟩
        refine (new_call (fun A => (impl_FindType x (by omega) hxo n A).mono fun r A' h => by
          obtain ⟨o', h1, h2⟩ := h
          rw [meanIs_one h1 ho] at h2
          exact h2) A).mono fun r A' h => ?_
        obtain ⟨B5, v5, S5, hA5, rfl, _⟩ := outS_of hρ1 h
        exact ⟨_, _, _, _, rfl⟩
      have hlt := sEs_length t
      simp only [zW, zX, zD, builtinA, isLeaf, const1, ustrA, simprocAttr, ti3, ti4, ti5, ti9, ti25, ti34, ti45, ti49, ca20, ca21, ca34, ca37, ca38, cf, Tryz.results11]
      refine callO_intro (himpl _) ?_
      rintro r A' ⟨rfl, rfl⟩
      simp only [zW, zX, zD, builtinA, isLeaf, const1, ustrA, simprocAttr, ti3, ti4, ti5, ti9, ti25, ti34, ti45, ti49, ca20, ca21, ca34, ca37, ca38, cf, Tryz.results11]
      refine callO_intro (hspec _) ?_
      rintro r A' ⟨rfl, rfl⟩
      simp only [zW, zX, zD, builtinA, isLeaf, const1, ustrA, simprocAttr, ti3, ti4, ti5, ti9, ti25, ti34, ti45, ti49, ca20, ca21, ca34, ca37, ca38, cf, Tryz.results11, hne, hbne]
      refine callO_intro (himpl' _) ?_
      rintro r A' ⟨rfl, rfl⟩
      simp only [zW, zX, zD, builtinA, isLeaf, const1, ustrA, simprocAttr, ti3, ti4, ti5, ti9, ti25, ti34, ti45, ti49, ca20, ca21, ca34, ca37, ca38, cf, Tryz.results11, hne, hbne]
      refine aloop_intro [3, 4, 6] (fun e A' => ∃ i, i ≤ t.length ∧ e = [(3, .slice (sEs s)), (4, .slice (sEs t)), (6, .int .i64 i)]) (fun e _ => t.length - (intOf (Abs.look 6 e)).toNat) ?_ ?_
      · simp only [zW, zX, zD, builtinA, isLeaf, const1, ustrA, simprocAttr, ti3, ti4, ti5, ti9, ti25, ti34, ti45, ti49, ca20, ca21, ca34, ca37, ca38, cf, Tryz.results11]
        exact ⟨0, by omega, rfl⟩
      · rintro e A0 ⟨i, hi, rfl⟩
        by_cases hl : i < t.length
        · have d2 : decide ((i : Int) < (t.length : Int)) = true := by simp; omega
          have pi : (0 : Int) ≤ (i : Int) ∧ (i : Int) < (t.length : Int) := ⟨by omega, by omega⟩
          have hi1 : IntKind.i64.wrap ((i : Int) + 1) = ((i + 1 : Nat) : Int) := by rw [wrap64 (by omega) (by omega)]; rfl
          have he := sEs_getD hl
          generalize t.getD i si0 = x at *
          obtain ⟨kk, n, tt⟩ := x
          simp only [sE] at he
          obtain ⟨o1, ho1⟩ := meanIs_ex s (true, n)
          obtain ⟨o2, ho2⟩ := meanIs_ex t (true, n)
          obtain ⟨o3, ho3⟩ := meanIs_ex s (false, n)
          obtain ⟨o4, ho4⟩ := meanIs_ex t (false, n)
          have hc1 := hV s n o1 hs hso ho1
          have hc2 := hV t n o2 ht hto ho2
          have hc3 := hT s n o3 hs hso ho3
          have hc4 := hT t n o4 ht hto ho4
          rw [← mt_same_keys hM hM' ho1 ho2] at hc2
          rw [← mt_same_keys hM hM' ho3 ho4] at hc4
          simp only [zW, zX, zD, builtinA, isLeaf, const1, ustrA, simprocAttr, ti3, ti4, ti5, ti9, ti25, ti34, ti45, ti49, ca20, ca21, ca34, ca37, ca38, cf, Tryz.results11, hlt, d2, he, enc_length]
          refine ⟨pi, ?_⟩
          refine callO_intro (hc1 _) ?_
          rintro r A1 ⟨k1, m1, n1, v1, rfl⟩
          simp only [zW, zX, zD, builtinA, isLeaf, const1, ustrA, simprocAttr, ti3, ti4, ti5, ti9, ti25, ti34, ti45, ti49, ca20, ca21, ca34, ca37, ca38, cf, Tryz.results11, hlt, d2, he, enc_length]
          refine ⟨pi, ?_⟩
          refine callO_intro (hc2 _) ?_
          rintro r A2 ⟨k2, m2, n2, v2, rfl⟩
          simp only [zW, zX, zD, builtinA, isLeaf, const1, ustrA, simprocAttr, ti3, ti4, ti5, ti9, ti25, ti34, ti45, ti49, ca20, ca21, ca34, ca37, ca38, cf, Tryz.results11, hlt, d2, he, enc_length]
          refine ⟨pi, ?_⟩
          refine callO_intro (hc3 _) ?_
          rintro r A3 ⟨k3, m3, n3, v3, rfl⟩
          simp only [zW, zX, zD, builtinA, isLeaf, const1, ustrA, simprocAttr, ti3, ti4, ti5, ti9, ti25, ti34, ti45, ti49, ca20, ca21, ca34, ca37, ca38, cf, Tryz.results11, hlt, d2, he, enc_length]
          refine ⟨pi, ?_⟩
          refine callO_intro (hc4 _) ?_
          rintro r A4 ⟨k4, m4, n4, v4, rfl⟩
          simp only [zW, zX, zD, builtinA, isLeaf, const1, ustrA, simprocAttr, ti3, ti4, ti5, ti9, ti25, ti34, ti45, ti49, ca20, ca21, ca34, ca37, ca38, cf, Tryz.results11, hne, hbne, hi1, LoopK_eq]
          refine ⟨⟨i + 1, by omega, rfl⟩, ?_⟩
          simp only [intOf]; omega
        · have d2 : decide ((i : Int) < (t.length : Int)) = false := by simp; omega
          simp only [zW, zX, zD, builtinA, isLeaf, const1, ustrA, simprocAttr, ti3, ti4, ti5, ti9, ti25, ti34, ti45, ti49, ca20, ca21, ca34, ca37, ca38, cf, Tryz.results11, hlt, d2]
          refine callO_intro (hself _) ?_
          rintro r A' ⟨rfl, rfl⟩
          simp only [zW, zX, zD, builtinA, isLeaf, const1, ustrA, simprocAttr, ti3, ti4, ti5, ti9, ti25, ti34, ti45, ti49, ca20, ca21, ca34, ca37, ca38, cf, Tryz.results11]
          refine callO_intro (hself' _) ?_
          rintro r A' ⟨rfl, rfl⟩
          simp only [zW, zX, zD, builtinA, isLeaf, const1, ustrA, simprocAttr, ti3, ti4, ti5, ti9, ti25, ti34, ti45, ti49, ca20, ca21, ca34, ca37, ca38, cf, Tryz.results11]
theorem mtEquiv_rec : ∀ t ∈ Tryz.f11.params.toList, Tryz.prog.readableRec t = true ∧ t < Tryz.prog.types.size := by
  rw [Tryz.params11]
  intro t ht
  simp at ht
  subst ht
  exact ⟨by kernel_rfl, of_decide_eq_true (by kernel_rfl)⟩
set_option maxRecDepth 100000 in
theorem mtEquiv_lifted (os : Os) (started : os.Started) (H : Type) (enc' : TypeId × Value → H) :
    ReturnsInHanded {} Tryz.checked os 11 .any (fun w args => (Rows.fnEquivSigsSpec.pre enc' Tryz.prog Tryz.f11 Rows.fnEquivSigsRow.domain false w args ∧ laidMetH Tryz.prog laidL w) ∧ sizedMet enc' Tryz.prog Tryz.f11 (OpenSpec.ofChange Rows.fnEquivSigsSpec) false w args) (Rows.fnEquivSigsSpec.post enc' Tryz.prog Tryz.f11 false true false false) := by
  refine returnsInHanded_of_change_and (C := Tryz.checked) (X := fun w _ => laidMetH Tryz.prog laidL w) (fun _ _ _ hh h => h.of_heap hh) ownk started (by kernel_rfl) Tryz.func11
    (ChangeSpec.witness_at (enc := enc') (C := Tryz.checked) (os := os) (X := fun w _ => laidMetH Tryz.prog laidL w) false (laidWorld os) #[.slice none 0 0] 8 rfl (by kernel_rfl) (by kernel_rfl) (by kernel_rfl) (by kernel_rfl) (by kernel_rfl) (laidWorld_met os _)) ?_
  intro W base args ds gs before hval0 hW hcnd _ hL _
  have hval : ∀ (j : Nat) t v, Tryz.f11.params[j]? = some t → args[j]? = some v → Value.okWide Tryz.prog W .any base t v := hval0
  have hW' := hW
  obtain ⟨p, q, hA0, hV, rfl, hfz, hnd⟩ := hW
  have hA : DataW.TrodAll enc' Tryz.prog W 0 (fun _ => true) true Tryz.f11.params.toList args.toList ds p := hA0
  rw [Tryz.params11] at hA hval
  have hlt := hA.lt
  obtain ⟨v0, d0, rfl, rfl, h0⟩ := trodAll_one hA
  obtain ⟨rfl, rfl⟩ := trodVars_none hV
  obtain ⟨x0, r0⟩ := rv_bytes Tryz.underlying34 Tryz.underlying5 (by kernel_rfl) (hval 0 34 v0 rfl rfl) h0 (fun x hx => hlt x (by simp [hx]))
  refine (law_calls (mtEquiv_true x0) (.cons r0 .nil) (gv_of_laid hL)).mono fun e W' ⟨he, hb⟩ => ?_
  subst he
  exact ⟨_, rfl, law_post laid mtEquiv_rec rfl Tryz.underlying4 (by kernel_rfl) ⟨rfl, rfl⟩ rfl hW' hb⟩
theorem mtEquiv_facts : joinedFacts Tryz.pinned.checked.prog 11 Tryz.f11 Rows.fnEquivSigsSpec Rows.fnEquivSigsRow = true := by kernel_rfl
theorem mtEquiv_row : Rows.FnEquivSigsSaid :=
  OpenClaim.holds_of_wide 11 Tryz.f11 rfl rfl rfl rfl rfl rfl rfl ⟨rfl, rfl, rfl, rfl, rfl⟩ rfl rfl rfl rfl rfl (by kernel_rfl) Tryz.func11 mtEquiv_facts
    (of_decide_eq_true (by kernel_rfl)) (by unfold Func.isWrapper; first | (rw [if_pos (by decide +kernel)]; kernel_rfl) | (rw [if_neg (by decide +kernel)]; exact ⟨rfl, rfl⟩))
    (fun os started H enc' _ => mtEquiv_lifted os started H enc')
theorem mtEquiv_holds : Rows.FnEquivSigsCardSaid :=
  Claim7.holds_tied_plain_at .later [] [.handle] true (true, "3b9c0b29125ae3c1057be6c9ea7f3211bb3d44f2cff06c881e93488895868c60") true
    mtEquiv_row (fun _ h => by cases h) (by kernel_rfl) (fun _ h => by cases h) fnEquivSigs_row_tie rfl ⟨rfl, rfl⟩ (by kernel_rfl) rfl
    (fun f fn hf hfn => by
      obtain rfl : f = 11 := Option.some.inj ((show Tryz.prog.funcNamed Rows.fnEquivSigsRow.func = some 11 by kernel_rfl).symm.trans hf) |>.symm
      obtain rfl : fn = Tryz.f11 := (Option.some.inj (Tryz.func11.symm.trans hfn)).symm
      refine ⟨by kernel_rfl, fun j t ht => ?_⟩
      rw [Tryz.params11] at ht
      rcases j with _ | j
      · obtain rfl : 34 = t := by simpa using ht
        exact (show Tryz.prog.wantsStandIn 34 = false by kernel_rfl)
      · simp at ht)
    (by kernel_rfl)
end Go.Proofs.YtkajklfohjcofaaGreatDoor

