/- Whatever the signature and the name that are drawn: StrengthenSig answers as the model says; it answers exactly where the signature is valid and the name is a module's; what it hands back is strengthened into itself. No condition beside the row's own. -/
import Derived.Test.YtngheinmebopeaaGreatK14
set_option linter.unusedVariables false
set_option linter.unusedSimpArgs false
namespace Go.Proofs.YtngheinmebopeaaGreat
open Go.Abs Go.RowKit Go.ChangeShapes Go.WideShapes Go.ChangeAt Go.ChangeMaps

set_option maxRecDepth 100000 in
set_option maxHeartbeats 4000000 in
theorem strTwice_true (bs : List UInt8) : ACalls Tryz.prog 4 [.aslice (byteRows bs)] [] (fun v _ => v = .bool true) := by
  refine acalls_enter (cf := cf 83 [0, 2, 3, 4, 5, 6, 7, 8, 9, 10, 13, 53]) foll Tryz.func4 Tryz.ntmps4 (by simp [cf]) ?_
  simp only [Tryz.f4, EnterK_some, zW, zX, zD, builtinA, isLeaf, const1, ustrA, simprocAttr, ti3, ti4, ti5, ti22, ca5, ca6, ca7, ca8, ca12, ca13, cf, Tryz.results4]
  by_cases hb : 1048576 < bs.length
  · have e1 : decide ((1048576 : Int) < bs.length) = true := decide_eq_true (by omega)
    simp only [zW, zX, zD, builtinA, isLeaf, const1, ustrA, simprocAttr, ti3, ti4, ti5, ti22, ca5, ca6, ca7, ca8, ca12, ca13, cf, Tryz.results4, byteRows_length, e1]
  · have e1 : decide ((1048576 : Int) < bs.length) = false := decide_eq_false (by omega)
    simp only [zW, zX, zD, builtinA, isLeaf, const1, ustrA, simprocAttr, ti3, ti4, ti5, ti22, ca5, ca6, ca7, ca8, ca12, ca13, cf, Tryz.results4, byteRows_length, e1]
    refine callK_intro (by simp only [zW, zX, zD, builtinA, isLeaf, const1, ustrA, simprocAttr]; rfl) (spec_DrawStrengthenSig bs _) ?_ rfl
    rintro v A' ⟨s, nm, rfl, hs, hsm, rfl⟩
    obtain ⟨hso, hsz⟩ := smx_all hs hsm
    obtain ⟨o, ho⟩ := rdS_ex s nm
    obtain ⟨hxl, hxo, hxz⟩ := str_small hsm ho
    have hsome := rdS_some ho
    have htw : ∀ zs, o = some zs → RdS (zs.map siOf) [90] (some zs) := fun zs e => rdS_twice (by rw [← e]; exact ho) (by decide)
    have hspec : ∀ A, ACalls Tryz.prog 7 [.slice (sEs s), .str nm] A (fun r A' => r = .tuple [.slice (sEs (nrX o)), .bool o.isSome] ∧ A' = A) := fun A => (spec_StrengthenSig s (by omega) hso nm A).mono fun r A' h => by
      obtain ⟨o', h1, h2, h3⟩ := h
      rw [rdS_eq h1 ho] at h2
      exact ⟨by rw [h2]; cases o <;> rfl, h3⟩
    have himpl : ∀ A, ACalls Tryz.prog 6 [.slice (sEs s), .str nm] A (SgNew A (nrX o) o.isSome) := sg_call fun A => (impl_StrengthenSig s (by omega) hso nm A).mono fun r A' h => by
      obtain ⟨o', h1, h2⟩ := h
      rw [rdS_eq h1 ho] at h2
      exact h2
    have hval := impl_SigValid s (by omega) hso
    have hmod := impl_ModuleName nm
    have hsame : ∀ A, ACalls Tryz.prog 8 [.slice (sEs (nrX o)), .slice (sEs (nrX o))] A (fun r A' => r = .bool true ∧ A' = A) := fun A => (impl_SigSame (nrX o) (nrX o) hxz hxz A).mono fun r A' h => by rw [sisB_refl] at h; exact h
    have hne : ∀ x : Bool, decide (¬ x = x) = false := fun x => by simp
    simp only [zW, zX, zD, builtinA, isLeaf, const1, ustrA, simprocAttr, ti3, ti4, ti5, ti22, ca5, ca6, ca7, ca8, ca12, ca13, cf, Tryz.results4]
    refine callO_intro (himpl _) ?_
    rintro r A1 ⟨B1, v1, S1, rfl, hB1, rfl, hv1, hK1, hN1, hR1⟩
    simp only [zW, zX, zD, builtinA, isLeaf, const1, ustrA, simprocAttr, ti3, ti4, ti5, ti22, ca5, ca6, ca7, ca8, ca12, ca13, cf, Tryz.results4]
    refine callO_intro (hspec _) ?_
    rintro r A2 ⟨rfl, rfl⟩
    simp only [zW, zX, zD, builtinA, isLeaf, const1, ustrA, simprocAttr, ti3, ti4, ti5, ti22, ca5, ca6, ca7, ca8, ca12, ca13, cf, Tryz.results4, hne]
    refine callO_intro (borrow0 (.cons hK1.view (.cons (.leaf _ rfl) .nil)) rfl hsame) ?_
    rintro r A' ⟨rfl, rfl⟩
    simp only [zW, zX, zD, builtinA, isLeaf, const1, ustrA, simprocAttr, ti3, ti4, ti5, ti22, ca5, ca6, ca7, ca8, ca12, ca13, cf, Tryz.results4]
    refine callO_intro (hval _) ?_
    rintro r A' ⟨rfl, rfl⟩
    cases hsv : sigB s with
    | false =>
      have hon : o.isSome = false := by rw [← hsome, hsv]; rfl
      rw [hon]
      simp only [zW, zX, zD, builtinA, isLeaf, const1, ustrA, simprocAttr, ti3, ti4, ti5, ti22, ca5, ca6, ca7, ca8, ca12, ca13, cf, Tryz.results4]
      refine callO_intro (borrow0 (.cons hK1.view (.cons (.leaf _ rfl) .nil)) rfl hsame) ?_
      rintro r A' ⟨rfl, rfl⟩
      simp only [zW, zX, zD, builtinA, isLeaf, const1, ustrA, simprocAttr, ti3, ti4, ti5, ti22, ca5, ca6, ca7, ca8, ca12, ca13, cf, Tryz.results4]
      refine callO_intro (hval _) ?_
      rintro r A' ⟨rfl, rfl⟩
      rw [hsv]
      simp only [zW, zX, zD, builtinA, isLeaf, const1, ustrA, simprocAttr, ti3, ti4, ti5, ti22, ca5, ca6, ca7, ca8, ca12, ca13, cf, Tryz.results4]
    | true =>
      simp only [zW, zX, zD, builtinA, isLeaf, const1, ustrA, simprocAttr, ti3, ti4, ti5, ti22, ca5, ca6, ca7, ca8, ca12, ca13, cf, Tryz.results4]
      refine callO_intro (hmod _) ?_
      rintro r A' ⟨rfl, rfl⟩
      cases hmv : moduleB nm with
      | false =>
        have hon : o.isSome = false := by rw [← hsome, hsv, hmv]; rfl
        rw [hon]
        simp only [zW, zX, zD, builtinA, isLeaf, const1, ustrA, simprocAttr, ti3, ti4, ti5, ti22, ca5, ca6, ca7, ca8, ca12, ca13, cf, Tryz.results4]
        refine callO_intro (borrow0 (.cons hK1.view (.cons (.leaf _ rfl) .nil)) rfl hsame) ?_
        rintro r A' ⟨rfl, rfl⟩
        simp only [zW, zX, zD, builtinA, isLeaf, const1, ustrA, simprocAttr, ti3, ti4, ti5, ti22, ca5, ca6, ca7, ca8, ca12, ca13, cf, Tryz.results4]
        refine callO_intro (hval _) ?_
        rintro r A' ⟨rfl, rfl⟩
        rw [hsv]
        simp only [zW, zX, zD, builtinA, isLeaf, const1, ustrA, simprocAttr, ti3, ti4, ti5, ti22, ca5, ca6, ca7, ca8, ca12, ca13, cf, Tryz.results4]
        refine callO_intro (hmod _) ?_
        rintro r A' ⟨rfl, rfl⟩
        rw [hmv]
        simp only [zW, zX, zD, builtinA, isLeaf, const1, ustrA, simprocAttr, ti3, ti4, ti5, ti22, ca5, ca6, ca7, ca8, ca12, ca13, cf, Tryz.results4]
      | true =>
        have hon : o.isSome = true := by rw [← hsome, hsv, hmv]; rfl
        rw [hon]
        simp only [zW, zX, zD, builtinA, isLeaf, const1, ustrA, simprocAttr, ti3, ti4, ti5, ti22, ca5, ca6, ca7, ca8, ca12, ca13, cf, Tryz.results4]
        obtain ⟨zs, rfl⟩ := Option.isSome_iff_exists.1 hon
        have htw2 := htw zs rfl
        have himpl2 : ∀ A, ACalls Tryz.prog 6 [.slice (sEs (nrX (some zs))), .str [90]] A (SgNew A (nrX (some zs)) true) := sg_call fun A => (impl_StrengthenSig (nrX (some zs)) (by omega) hxo [90] A).mono fun r A' h => by
          obtain ⟨o', h1, h2⟩ := h
          rw [rdS_eq h1 htw2] at h2
          exact h2
        refine callO_intro (sg_view himpl2 (.cons hK1.view (.cons (.leaf _ rfl) .nil))) ?_
        rintro r A3 ⟨B3, v3, S3, rfl, hB3, rfl, hv3, hK3, hN3, hR3⟩
        have hK4 := hK1.frame (A' := A' ++ B3) fun i hi => Abs.getD_append_left (hK1.low i hi)
        simp only [zW, zX, zD, builtinA, isLeaf, const1, ustrA, simprocAttr, ti3, ti4, ti5, ti22, ca5, ca6, ca7, ca8, ca12, ca13, cf, Tryz.results4]
        refine callO_intro (borrow0 (.cons hK3.view (.cons hK4.view .nil)) rfl hsame) ?_
        rintro r A' ⟨rfl, rfl⟩
        simp only [zW, zX, zD, builtinA, isLeaf, const1, ustrA, simprocAttr, ti3, ti4, ti5, ti22, ca5, ca6, ca7, ca8, ca12, ca13, cf, Tryz.results4]
theorem strTwice_rec : ∀ t ∈ Tryz.f4.params.toList, Tryz.prog.readableRec t = true ∧ t < Tryz.prog.types.size := by
  rw [Tryz.params4]
  intro t ht
  simp at ht
  subst ht
  exact ⟨by kernel_rfl, of_decide_eq_true (by kernel_rfl)⟩
set_option maxRecDepth 100000 in
theorem strTwice_lifted (os : Os) (started : os.Started) (H : Type) (enc' : TypeId × Value → H) :
    ReturnsInHanded {} Tryz.checked os 4 .any (Rows.fnStrengthenTwiceSpec.pre6 enc' Tryz.prog Tryz.f4 Rows.fnStrengthenTwiceRow.domain false) (Rows.fnStrengthenTwiceSpec.post enc' Tryz.prog Tryz.f4 false true false false) := by
  refine returnsInHanded_of_change (C := Tryz.checked) ownk started (by kernel_rfl) Tryz.func4
    (ChangeSpec.witness6 (enc := enc') (C := Tryz.checked) false ⟨#[], #[.slice none 0 0], []⟩ 8 (by kernel_rfl) (by kernel_rfl) (by kernel_rfl) (by kernel_rfl)) ?_
  intro W base args ds gs before hval0 hW hcnd _
  have hval : ∀ (j : Nat) t v, Tryz.f4.params[j]? = some t → args[j]? = some v → Value.okWide Tryz.prog W .any base t v := hval0
  have hW' := hW
  obtain ⟨p, q, hA0, hV, rfl, hfz, hnd⟩ := hW
  have hA : DataW.TrodAll enc' Tryz.prog W 0 (fun _ => true) true Tryz.f4.params.toList args.toList ds p := hA0
  rw [Tryz.params4] at hA hval
  have hlt := hA.lt
  obtain ⟨v0, d0, rfl, rfl, h0⟩ := trodAll_one hA
  obtain ⟨rfl, rfl⟩ := trodVars_none hV
  obtain ⟨x0, r0⟩ := rv_bytes Tryz.underlying22 Tryz.underlying5 (by kernel_rfl) (hval 0 22 v0 rfl rfl) h0 (fun x hx => hlt x (by simp [hx]))
  refine (law_calls (strTwice_true x0) (.cons r0 .nil)).mono fun e W' ⟨he, hb⟩ => ?_
  subst he
  exact ⟨_, rfl, law_post laid strTwice_rec rfl Tryz.underlying4 (by kernel_rfl) ⟨rfl, rfl⟩ rfl hW' hb⟩
theorem strTwice_facts : joinedFacts Tryz.pinned.checked.prog 4 Tryz.f4 Rows.fnStrengthenTwiceSpec Rows.fnStrengthenTwiceRow = true := by kernel_rfl
theorem strTwice_holds : Rows.FnStrengthenTwiceSaid :=
  OpenClaim.holds_of_wide 4 Tryz.f4 rfl rfl rfl rfl rfl rfl rfl ⟨rfl, rfl, rfl, rfl, rfl⟩ rfl rfl rfl rfl rfl (by kernel_rfl) Tryz.func4 strTwice_facts
    (of_decide_eq_true (by kernel_rfl)) (by unfold Func.isWrapper; first | (rw [if_pos (by decide +kernel)]; kernel_rfl) | (rw [if_neg (by decide +kernel)]; exact ⟨rfl, rfl⟩))
    (fun os started H enc' _ => strTwice_lifted os started H enc')
end Go.Proofs.YtngheinmebopeaaGreat

