/- Whatever the signature and the name that are drawn: FindVal answers as the model says; the first items of a valid signature are a valid signature, in which a name that is found stands for the same type. No condition beside the row's own. -/
import Derived.Test.YtmgppdedcciogaaGreatPreFacts
import Derived.Test.YtmgppdedcciogaaGreatSigVal
import Derived.Test.YtmgppdedcciogaaGreatSigEq
import Derived.Test.YtmgppdedcciogaaGreatSigFT
import Derived.Test.YtmgppdedcciogaaGreatSubOutS
import Derived.Test.YtmgppdedcciogaaGreatAbsW3
set_option linter.unusedVariables false
set_option linter.unusedSimpArgs false
namespace Go.Proofs.YtmgppdedcciogaaGreat
open Go.Abs Go.RowKit Go.ChangeShapes Go.WideShapes Go.ChangeAt Go.ChangeMaps

set_option maxRecDepth 100000 in
set_option maxHeartbeats 4000000 in
theorem sigPre_true (bs cs : List UInt8) : ACalls Tryz.prog 6 [.aslice (byteRows bs), .aslice (byteRows cs)] [] (fun v _ => v = .bool true) := by
  by_cases hb : 1048576 < bs.length
  · have e1 : decide ((1048576 : Int) < bs.length) = true := decide_eq_true (by omega)
    refine acalls_enter (cf := cf 92 [0, 1, 4, 5, 6, 7, 8, 9, 10, 11, 12, 13, 21, 52]) foll Tryz.func6 Tryz.ntmps6 (by simp [cf]) ?_
    simp only [Tryz.f6, EnterK_some, zW, zX, zD, builtinA, isLeaf, const1, ustrA, simprocAttr, ti3, ti4, ti5, ti22, ti23, ti33, ti42, ca16, ca19, ca20, ca21, ca23, cf, Tryz.results6]
    simp only [zW, zX, zD, builtinA, isLeaf, const1, ustrA, simprocAttr, ti3, ti4, ti5, ti22, ti23, ti33, ti42, ca16, ca19, ca20, ca21, ca23, cf, Tryz.results6, byteRows_length, e1]
  have e1 : decide ((1048576 : Int) < bs.length) = false := decide_eq_false (by omega)
  by_cases hc : 1048576 < cs.length
  · have e2 : decide ((1048576 : Int) < cs.length) = true := decide_eq_true (by omega)
    refine acalls_enter (cf := cf 92 [0, 1, 4, 5, 6, 7, 8, 9, 10, 11, 12, 13, 21, 52]) foll Tryz.func6 Tryz.ntmps6 (by simp [cf]) ?_
    simp only [Tryz.f6, EnterK_some, zW, zX, zD, builtinA, isLeaf, const1, ustrA, simprocAttr, ti3, ti4, ti5, ti22, ti23, ti33, ti42, ca16, ca19, ca20, ca21, ca23, cf, Tryz.results6]
    simp only [zW, zX, zD, builtinA, isLeaf, const1, ustrA, simprocAttr, ti3, ti4, ti5, ti22, ti23, ti33, ti42, ca16, ca19, ca20, ca21, ca23, cf, Tryz.results6, byteRows_length, e1, e2]
  have e2 : decide ((1048576 : Int) < cs.length) = false := decide_eq_false (by omega)
  refine acalls_enter (cf := cf 92 [0, 1, 4, 5, 6, 7, 8, 9, 10, 11, 12, 13, 21, 52]) foll Tryz.func6 Tryz.ntmps6 (by simp [cf]) ?_
  simp only [Tryz.f6, EnterK_some, zW, zX, zD, builtinA, isLeaf, const1, ustrA, simprocAttr, ti3, ti4, ti5, ti22, ti23, ti33, ti42, ca16, ca19, ca20, ca21, ca23, cf, Tryz.results6]
  simp only [zW, zX, zD, builtinA, isLeaf, const1, ustrA, simprocAttr, ti3, ti4, ti5, ti22, ti23, ti33, ti42, ca16, ca19, ca20, ca21, ca23, cf, Tryz.results6, byteRows_length, e1, e2]
  refine callK_intro (by simp only [zW, zX, zD, builtinA, isLeaf, const1, ustrA, simprocAttr]; rfl) (spec_DrawFindVal bs _) ?_ rfl
  rintro v A' ⟨s, nm, rfl, hs, hsm, rfl⟩
  obtain ⟨hso, hsz⟩ := smx_all hs hsm
  obtain ⟨o, ho⟩ := meanIs_ex s (true, nm)
  obtain ⟨k', m', n', ks', hρ⟩ : ∃ k m n ks, oTyS o = .mk k m n ks := by cases oTyS o; exact ⟨_, _, _, _, rfl⟩
  have hszρ := oTyS_sz ho
  have hspec : ∀ A, ACalls Tryz.prog 21 [.slice (sEs s), .str nm] A (fun r A' => r = .tuple [.agg (enc (.mk k' m' n' ks')), .bool o.isSome] ∧ A' = A) := fun A => (spec_FindVal s (by omega) hso nm A).mono fun r A' h => by
    obtain ⟨o', h1, h2, h3⟩ := h
    rw [meanIs_one h1 ho] at h2
    exact ⟨by rw [h2, hρ], h3⟩
  have himpl : ∀ A, ACalls Tryz.prog 20 [.slice (sEs s), .str nm] A (OutS A k' m' n' ks' o.isSome) := fun A => (new_call (fun A => (impl_FindVal s (by omega) hso nm A).mono fun r A' h => by
    obtain ⟨o', h1, h2⟩ := h
    rw [meanIs_one h1 ho] at h2
    exact h2) A).mono fun r A' h => outS_of hρ h
  have htr := fun A => impl_TypeSame (.mk k' m' n' ks') (.mk k' m' n' ks') (by rw [← hρ]; omega) (by rw [← hρ]; omega) A
  rw [decide_eq_true rfl] at htr
  have hval := impl_SigValid s (by omega) hso
  have hne : ∀ x : Bool, decide (¬ x = x) = false := fun x => by simp
  simp only [zW, zX, zD, builtinA, isLeaf, const1, ustrA, simprocAttr, ti3, ti4, ti5, ti22, ti23, ti33, ti42, ca16, ca19, ca20, ca21, ca23, cf, Tryz.results6, enc_length, enc_take, enc_drop, frzL_enc, enc_closed, Option.map_some]
  refine callO_intro (himpl _) ?_
  rintro r A1 ⟨B1, v1, S1, rfl, rfl, hK1, hN1, hR1⟩
  simp only [zW, zX, zD, builtinA, isLeaf, const1, ustrA, simprocAttr, ti3, ti4, ti5, ti22, ti23, ti33, ti42, ca16, ca19, ca20, ca21, ca23, cf, Tryz.results6, enc_length, enc_take, enc_drop, frzL_enc, enc_closed, Option.map_some]
  refine callO_intro (hspec _) ?_
  rintro r A2 ⟨rfl, rfl⟩
  simp only [zW, zX, zD, builtinA, isLeaf, const1, ustrA, simprocAttr, ti3, ti4, ti5, ti22, ti23, ti33, ti42, ca16, ca19, ca20, ca21, ca23, cf, Tryz.results6, enc_length, enc_take, enc_drop, frzL_enc, enc_closed, Option.map_some, hne]
  obtain ⟨A2, hA2⟩ : ∃ A2, A2 = A1 ++ [Box.cells [.int .i64 k', .str m', .str n', v1], .cells (enc (.mk k' m' n' ks'))] := ⟨_, rfl⟩
  have b1 : A2.getD A1.length .dead = .cells [.int .i64 k', .str m', .str n', v1] := by rw [hA2, Abs.getD_append_right (Nat.le_refl _)]; simp
  have b2 : A2.getD (A1.length + 1) .dead = .cells (enc (.mk k' m' n' ks')) := by rw [hA2, Abs.getD_append_right (by omega)]; simp [List.getD]
  have l2 : A1.length + 1 < A2.length := by rw [hA2]; simp
  have l1 : A1.length < A2.length := by omega
  have hK2 : OwnK A2 ks' v1 S1 := by rw [hA2]; exact hK1.frame fun i hi => Abs.getD_append_left (hR1 i hi).2
  rw [← hA2]
  clear hA2 hK1
  refine callO_intro (borrowI (.cons (hK2.viewT k' m' n') (.cons (viewNS _ _) .nil)) rfl htr) ?_
  rintro r A' ⟨rfl, rfl⟩
  simp only [zW, zX, zD, builtinA, isLeaf, const1, ustrA, simprocAttr, ti3, ti4, ti5, ti22, ti23, ti33, ti42, ca16, ca19, ca20, ca21, ca23, cf, Tryz.results6]
  refine callO_intro (hval _) ?_
  rintro r A' ⟨rfl, rfl⟩
  cases hsv : sigB s with
  | false =>
    simp only [zW, zX, zD, builtinA, isLeaf, const1, ustrA, simprocAttr, ti3, ti4, ti5, ti22, ti23, ti33, ti42, ca16, ca19, ca20, ca21, ca23, cf, Tryz.results6, b1, b2, l1, l2, enc_length, enc_take, enc_drop, frzL_enc, enc_closed, Option.map_some, hne]
    refine callO_intro (borrowI (.cons (hK2.viewT k' m' n') (.cons (viewNS _ _) .nil)) rfl htr) ?_
    rintro r A' ⟨rfl, rfl⟩
    simp only [zW, zX, zD, builtinA, isLeaf, const1, ustrA, simprocAttr, ti3, ti4, ti5, ti22, ti23, ti33, ti42, ca16, ca19, ca20, ca21, ca23, cf, Tryz.results6]
  | true =>
    obtain ⟨k, hkl, hk⟩ : ∃ k : Nat, k ≤ s.length ∧ (cs.length : Int).tmod (s.length + 1 : Int) = k := ⟨cs.length % (s.length + 1), by have := Nat.mod_lt cs.length (show 0 < s.length + 1 by omega); omega, by rw [← Int.natCast_one, ← Int.natCast_add, ← Int.ofNat_tmod]⟩
    have hw : IntKind.i64.wrap ((s.length : Int) + 1) = s.length + 1 := wrap64 (by omega) (by omega)
    have hlen := sEs_length s
    simp only [zW, zX, zD, builtinA, isLeaf, const1, ustrA, simprocAttr, ti3, ti4, ti5, ti22, ti23, ti33, ti42, ca16, ca19, ca20, ca21, ca23, cf, Tryz.results6, byteRows_length, hlen, hw, hk]
    have hrow : ∀ r ∈ sEs s, r.length = 6 := fun r hr => by
      obtain ⟨x, _, rfl⟩ := List.mem_map.1 hr
      exact sE_length x
    have htk : (s.take k).length ≤ 9 := by rw [List.length_take]; omega
    have hto : ∀ x ∈ s.take k, x.Ok ∧ sz x.typ ≤ 1048576 := fun x hx => hso x (List.mem_of_mem_take hx)
    obtain ⟨op, hop⟩ := meanIs_ex (s.take k) (true, nm)
    obtain ⟨k2, m2, n2, ks2, hρ2⟩ : ∃ k m n ks, oTyS op = .mk k m n ks := by cases oTyS op; exact ⟨_, _, _, _, rfl⟩
    have himp2 : ∀ A, ACalls Tryz.prog 20 [.slice (sEs (s.take k)), .str nm] A (OutS A k2 m2 n2 ks2 op.isSome) := fun A => (new_call (fun A => (impl_FindVal (s.take k) (by omega) hto nm A).mono fun r A' h => by
      obtain ⟨o', h1, h2⟩ := h
      rw [meanIs_one h1 hop] at h2
      exact h2) A).mono fun r A' h => outS_of hρ2 h
    have hva2 := impl_SigValid (s.take k) (by omega) hto
    rw [sigB_take k hsv] at hva2
    rw [sEs_take]
    refine ⟨by omega, ⟨hrow, by omega, by omega⟩, ?_⟩
    refine callO_intro (himp2 _) ?_
    rintro r A3 ⟨B3, v3, S3, hA3, rfl, hK3, hN3, hR3⟩
    have l3 : A1.length < A3.length := by rw [hA3, List.length_append]; omega
    have c1 : ∀ Y, (A3 ++ Y).getD A1.length .dead = .cells [.int .i64 k', .str m', .str n', v1] := fun Y => by rw [Abs.getD_append_left l3, hA3, Abs.getD_append_left l1]; exact b1
    have hK4 : ∀ Y, OwnK (A3 ++ Y) ks' v1 S1 := fun Y => hK2.frame fun i hi => by
      have h := hK2.low i hi
      rw [Abs.getD_append_left (by rw [hA3, List.length_append]; omega), hA3, Abs.getD_append_left h]
    have hK5 : ∀ Y, OwnK (A3 ++ Y) ks2 v3 S3 := fun Y => hK3.frame fun i hi => Abs.getD_append_left (hR3 i hi).2
    simp only [zW, zX, zD, builtinA, isLeaf, const1, ustrA, simprocAttr, ti3, ti4, ti5, ti22, ti23, ti33, ti42, ca16, ca19, ca20, ca21, ca23, cf, Tryz.results6, byteRows_length, hlen, hw, hk, sEs_take]
    refine ⟨⟨hrow, by omega, by omega⟩, ?_⟩
    refine callO_intro (hva2 _) ?_
    rintro r A' ⟨rfl, hA⟩
    have hA := hA.symm
    subst hA
    cases op with
    | none =>
      cases o with
      | none => simp only [zW, zX, zD, builtinA, isLeaf, const1, ustrA, simprocAttr, ti3, ti4, ti5, ti22, ti23, ti33, ti42, ca16, ca19, ca20, ca21, ca23, cf, Tryz.results6]
      | some v => simp only [zW, zX, zD, builtinA, isLeaf, const1, ustrA, simprocAttr, ti3, ti4, ti5, ti22, ti23, ti33, ti42, ca16, ca19, ca20, ca21, ca23, cf, Tryz.results6, Option.isSome_some, Option.isSome_none]
    | some w =>
      cases o with
      | none => simp only [zW, zX, zD, builtinA, isLeaf, const1, ustrA, simprocAttr, ti3, ti4, ti5, ti22, ti23, ti33, ti42, ca16, ca19, ca20, ca21, ca23, cf, Tryz.results6]
      | some v =>
        have hwv := mean_take k ho hop
        subst hwv
        have e2 : Ty.mk k2 m2 n2 ks2 = .mk k' m' n' ks' := by rw [← hρ2, ← hρ]
        have htr2 : ∀ A, ACalls Tryz.prog 16 [.agg (enc (.mk k2 m2 n2 ks2)), .agg (enc (.mk k' m' n' ks'))] A (fun r A' => r = .bool true ∧ A' = A) := by rw [e2]; exact htr
        simp only [zW, zX, zD, builtinA, isLeaf, const1, ustrA, simprocAttr, ti3, ti4, ti5, ti22, ti23, ti33, ti42, ca16, ca19, ca20, ca21, ca23, cf, Tryz.results6, Option.isSome_some, c1, enc_length, enc_take, enc_drop, frzL_enc, enc_closed, Option.map_some]
        refine callO_intro (borrowI (.cons ((hK5 _).viewT k2 m2 n2) (.cons ((hK4 _).viewT k' m' n') .nil)) rfl htr2) ?_
        rintro r A' ⟨rfl, rfl⟩
        simp only [zW, zX, zD, builtinA, isLeaf, const1, ustrA, simprocAttr, ti3, ti4, ti5, ti22, ti23, ti33, ti42, ca16, ca19, ca20, ca21, ca23, cf, Tryz.results6]
theorem sigPre_rec : ∀ t ∈ Tryz.f6.params.toList, Tryz.prog.readableRec t = true ∧ t < Tryz.prog.types.size := by
  rw [Tryz.params6]
  intro t ht
  simp at ht
  subst ht
  exact ⟨by kernel_rfl, of_decide_eq_true (by kernel_rfl)⟩
set_option maxRecDepth 100000 in
theorem sigPre_lifted (os : Os) (started : os.Started) (H : Type) (enc' : TypeId × Value → H) :
    ReturnsInHanded {} Tryz.checked os 6 .any (Rows.fnSigPrefixSpec.pre6 enc' Tryz.prog Tryz.f6 Rows.fnSigPrefixRow.domain false) (Rows.fnSigPrefixSpec.post enc' Tryz.prog Tryz.f6 false true false false) := by
  refine returnsInHanded_of_change (C := Tryz.checked) ownk started (by kernel_rfl) Tryz.func6
    (ChangeSpec.witness6 (enc := enc') (C := Tryz.checked) false ⟨#[], #[.slice none 0 0, .slice none 0 0], []⟩ 8 (by kernel_rfl) (by kernel_rfl) (by kernel_rfl) (by kernel_rfl)) ?_
  intro W base args ds gs before hval0 hW hcnd _
  have hval : ∀ (j : Nat) t v, Tryz.f6.params[j]? = some t → args[j]? = some v → Value.okWide Tryz.prog W .any base t v := hval0
  have hW' := hW
  obtain ⟨p, q, hA0, hV, rfl, hfz, hnd⟩ := hW
  have hA : DataW.TrodAll enc' Tryz.prog W 0 (fun _ => true) true Tryz.f6.params.toList args.toList ds p := hA0
  rw [Tryz.params6] at hA hval
  have hlt := hA.lt
  obtain ⟨v0, v1, d0, d1, p0, p1, rfl, rfl, rfl, h0, h1⟩ := trodAll_two hA
  obtain ⟨rfl, rfl⟩ := trodVars_none hV
  obtain ⟨x0, r0⟩ := rv_bytes Tryz.underlying22 Tryz.underlying5 (by kernel_rfl) (hval 0 22 v0 rfl rfl) h0 (fun x hx => hlt x (by simp [hx]))
  obtain ⟨x1, r1⟩ := rv_bytes Tryz.underlying22 Tryz.underlying5 (by kernel_rfl) (hval 1 22 v1 rfl rfl) h1 (fun x hx => hlt x (by simp [hx]))
  refine (law_calls (sigPre_true x0 x1) (.cons r0 (.cons r1 .nil))).mono fun e W' ⟨he, hb⟩ => ?_
  subst he
  exact ⟨_, rfl, law_post laid sigPre_rec rfl Tryz.underlying4 (by kernel_rfl) ⟨rfl, rfl⟩ rfl hW' hb⟩
theorem sigPre_holds : Rows.FnSigPrefixSaid :=
  OpenClaim.holds_of_wide 6 Tryz.f6 rfl rfl rfl rfl rfl rfl rfl ⟨rfl, rfl, rfl, rfl, rfl⟩ rfl rfl rfl rfl rfl (by kernel_rfl) Tryz.func6 (by kernel_rfl)
    (of_decide_eq_true (by kernel_rfl)) (by unfold Func.isWrapper; first | (rw [if_pos (by decide +kernel)]; kernel_rfl) | (rw [if_neg (by decide +kernel)]; exact ⟨rfl, rfl⟩))
    (fun os started H enc' _ => sigPre_lifted os started H enc')
end Go.Proofs.YtmgppdedcciogaaGreat
