/- Whatever the signature and the name that are drawn: FindType answers as the model says; each name without a module in what is found stands for itself; what is found is a type. No condition beside the row's own. -/
import Derived.Test.YtmgppdedcciogaaGreatAbFacts
import Derived.Test.YtmgppdedcciogaaGreatSigFT
import Derived.Test.YtmgppdedcciogaaGreatSubOutS
import Derived.Test.YtmgppdedcciogaaGreatTyNamesG
import Derived.Test.YtmgppdedcciogaaGreatSameA2
import Derived.Test.YtmgppdedcciogaaGreatAbsW3
set_option linter.unusedVariables false
set_option linter.unusedSimpArgs false
namespace Go.Proofs.YtmgppdedcciogaaGreat
open Go.Abs Go.RowKit Go.ChangeShapes Go.WideShapes Go.ChangeAt Go.ChangeMaps

/-- the names of a type that is borrowed -/
theorem names_b {A : List Box} {τ : Ty} {args : List AV} (hv : Views A args [.agg (enc τ)]) : ACalls Tryz.prog 17 args A (fun r A' => NmsNew A (nmsOf τ) r A') := by
  refine ACalls.borrow hv ((impl_TypeNames τ _).mono ?_)
  rintro r A' ⟨B, rfl, h, hf⟩
  refine ⟨B, rfl, ?_, hf, B, rfl, ?_, hf⟩
  · rcases h with ⟨rfl, _⟩ | ⟨j, rfl, _, _⟩ <;> rfl
  · rcases h with h | ⟨j, rfl, hj, hb⟩
    · exact .inl h
    · rw [deads_length] at hj
      refine .inr ⟨j, rfl, hj, ?_⟩
      rw [Abs.getD_append_right (by rw [deads_length]; exact hj), deads_length] at hb
      rw [Abs.getD_append_right hj]; exact hb

set_option maxRecDepth 100000 in
set_option maxHeartbeats 4000000 in
theorem findType_true (bs : List UInt8) : ACalls Tryz.prog 4 [.aslice (byteRows bs)] [] (fun v _ => v = .bool true) := by
  by_cases hb : 1048576 < bs.length
  · have e1 : decide ((1048576 : Int) < bs.length) = true := decide_eq_true (by omega)
    refine acalls_enter (cf := cf 93 [0, 2, 3, 4, 5, 6, 7, 8, 9, 10, 11, 12, 15, 45, 59, 90]) foll Tryz.func4 Tryz.ntmps4 (by simp [cf]) ?_
    simp only [Tryz.f4, EnterK_some, zW, zX, zD, builtinA, isLeaf, const1, ustrA, simprocAttr, ti3, ti4, ti5, ti9, ti22, ti31, ti33, ca13, ca14, ca15, ca16, ca17, ca18, cf, Tryz.results4]
    simp only [zW, zX, zD, builtinA, isLeaf, const1, ustrA, simprocAttr, ti3, ti4, ti5, ti9, ti22, ti31, ti33, ca13, ca14, ca15, ca16, ca17, ca18, cf, Tryz.results4, byteRows_length, e1]
  have e1 : decide ((1048576 : Int) < bs.length) = false := decide_eq_false (by omega)
  refine acalls_enter (cf := cf 93 [0, 2, 3, 4, 5, 6, 7, 8, 9, 10, 11, 12, 15, 45, 59, 90]) foll Tryz.func4 Tryz.ntmps4 (by simp [cf]) ?_
  simp only [Tryz.f4, EnterK_some, zW, zX, zD, builtinA, isLeaf, const1, ustrA, simprocAttr, ti3, ti4, ti5, ti9, ti22, ti31, ti33, ca13, ca14, ca15, ca16, ca17, ca18, cf, Tryz.results4]
  simp only [zW, zX, zD, builtinA, isLeaf, const1, ustrA, simprocAttr, ti3, ti4, ti5, ti9, ti22, ti31, ti33, ca13, ca14, ca15, ca16, ca17, ca18, cf, Tryz.results4, byteRows_length, e1]
  refine callK_intro (by simp only [zW, zX, zD, builtinA, isLeaf, const1, ustrA, simprocAttr]; rfl) (spec_DrawFindType bs _) ?_ rfl
  rintro v A' ⟨s, nm, rfl, hs, hsm, rfl⟩
  obtain ⟨hso, hsz⟩ := smx_all hs hsm
  have hF : ∀ nm o, MeanIs s (false, nm) o → ∀ A, ACalls Tryz.prog 14 [.slice (sEs s), .str nm] A (SubNew A o) := fun nm o ho => new_call fun A => (impl_FindType s (by omega) hso nm A).mono fun r A' h => by
    obtain ⟨o', h1, h2⟩ := h
    rw [meanIs_one h1 ho] at h2
    exact h2
  obtain ⟨o, ho⟩ := meanIs_ex s (false, nm)
  obtain ⟨k', m', n', ks', hρ⟩ : ∃ k m n ks, oTyS o = .mk k m n ks := by cases oTyS o; exact ⟨_, _, _, _, rfl⟩
  have hszρ := oTyS_sz ho
  have hspec : ∀ A, ACalls Tryz.prog 15 [.slice (sEs s), .str nm] A (fun r A' => r = .tuple [.agg (enc (.mk k' m' n' ks')), .bool o.isSome] ∧ A' = A) := fun A => (spec_FindType s (by omega) hso nm A).mono fun r A' h => by
    obtain ⟨o', h1, h2, h3⟩ := h
    rw [meanIs_one h1 ho] at h2
    exact ⟨by rw [h2, hρ], h3⟩
  have himpl : ∀ A, ACalls Tryz.prog 14 [.slice (sEs s), .str nm] A (OutS A k' m' n' ks' o.isSome) := fun A => (hF nm o ho A).mono fun r A' h => outS_of hρ h
  have htr := fun A => impl_TypeSame (.mk k' m' n' ks') (.mk k' m' n' ks') (by rw [← hρ]; omega) (by rw [← hρ]; omega) A
  rw [decide_eq_true rfl] at htr
  have hne : ∀ x : Bool, decide (¬ x = x) = false := fun x => by simp
  simp only [zW, zX, zD, builtinA, isLeaf, const1, ustrA, simprocAttr, ti3, ti4, ti5, ti9, ti22, ti31, ti33, ca13, ca14, ca15, ca16, ca17, ca18, cf, Tryz.results4, enc_length, enc_take, enc_drop, frzL_enc, enc_closed, Option.map_some]
  refine callO_intro (himpl _) ?_
  rintro r A1 ⟨B1, v1, S1, rfl, rfl, hK1, hN1, hR1⟩
  simp only [zW, zX, zD, builtinA, isLeaf, const1, ustrA, simprocAttr, ti3, ti4, ti5, ti9, ti22, ti31, ti33, ca13, ca14, ca15, ca16, ca17, ca18, cf, Tryz.results4, enc_length, enc_take, enc_drop, frzL_enc, enc_closed, Option.map_some]
  refine callO_intro (hspec _) ?_
  rintro r A2 ⟨rfl, rfl⟩
  simp only [zW, zX, zD, builtinA, isLeaf, const1, ustrA, simprocAttr, ti3, ti4, ti5, ti9, ti22, ti31, ti33, ca13, ca14, ca15, ca16, ca17, ca18, cf, Tryz.results4, enc_length, enc_take, enc_drop, frzL_enc, enc_closed, Option.map_some, hne]
  obtain ⟨A2, hA2⟩ : ∃ A2, A2 = A1 ++ [Box.cells [.int .i64 k', .str m', .str n', v1], .cells (enc (.mk k' m' n' ks'))] := ⟨_, rfl⟩
  have b1 : A2.getD A1.length .dead = .cells [.int .i64 k', .str m', .str n', v1] := by rw [hA2, Abs.getD_append_right (Nat.le_refl _)]; simp
  have b2 : A2.getD (A1.length + 1) .dead = .cells (enc (.mk k' m' n' ks')) := by rw [hA2, Abs.getD_append_right (by omega)]; simp [List.getD]
  have l2 : A1.length + 1 < A2.length := by rw [hA2]; simp
  have l1 : A1.length < A2.length := by omega
  have hK2 : OwnK A2 ks' v1 S1 := by rw [hA2]; exact hK1.frame fun i hi => Abs.getD_append_left (hR1 i hi).2
  rw [← hA2]
  clear hA2 hK1
  refine callO_intro (borrowI (.cons (hK2.viewT k' m' n') (.cons (viewNS _ _) .nil)) rfl htr) ?_
  rintro r A' ⟨rfl, rfl⟩
  cases o with
  | none =>
    simp only [zW, zX, zD, builtinA, isLeaf, const1, ustrA, simprocAttr, ti3, ti4, ti5, ti9, ti22, ti31, ti33, ca13, ca14, ca15, ca16, ca17, ca18, cf, Tryz.results4, b1, b2, l1, l2, enc_length, enc_take, enc_drop, frzL_enc, enc_closed, Option.map_some, hne]
    refine callO_intro (borrowI (.cons (hK2.viewT k' m' n') (.cons (viewNS _ _) .nil)) rfl htr) ?_
    rintro r A' ⟨rfl, rfl⟩
    simp only [zW, zX, zD, builtinA, isLeaf, const1, ustrA, simprocAttr, ti3, ti4, ti5, ti9, ti22, ti31, ti33, ca13, ca14, ca15, ca16, ca17, ca18, cf, Tryz.results4]
  | some v =>
    have hvo := meanIs_vok ho
    have hmn := mean_names ho
    have hnms : nmsOf (Ty.mk k' m' n' ks') = nmsV [] v := by rw [← hρ, oTyS, nmsOf_toTy hvo]
    simp only [zW, zX, zD, builtinA, isLeaf, const1, ustrA, simprocAttr, ti3, ti4, ti5, ti9, ti22, ti31, ti33, ca13, ca14, ca15, ca16, ca17, ca18, cf, Tryz.results4, b1, b2, l1, l2, enc_length, enc_take, enc_drop, frzL_enc, enc_closed, Option.map_some, hne]
    refine callO_intro (names_b (.cons (hK2.viewT k' m' n') .nil)) ?_
    rintro r A3 ⟨B3, hA3, hr, hB3⟩
    rw [hnms] at hr
    have hnl : (nmsV [] v).length ≤ 63 := by have h1 := nmsV_len v []; have h2 := hvo.cnt; rw [List.length_nil] at h1; omega
    generalize nmsV [] v = ns at *
    have hval := impl_TypeValid (Ty.mk k' m' n' ks')
    rw [← hρ, oTyS, validB_toTy hvo] at hval
    rw [oTyS] at hρ
    rw [hρ] at hval
    have l3 : A1.length < A3.length := by rw [hA3, List.length_append]; omega
    have c1 : ∀ Y, (A3 ++ Y).getD A1.length .dead = .cells [.int .i64 k', .str m', .str n', v1] := fun Y => by rw [Abs.getD_append_left l3, hA3, Abs.getD_append_left l1]; exact b1
    have c10 := c1 []
    rw [List.append_nil] at c10
    have hK4 : ∀ Y, OwnK (A3 ++ Y) ks' v1 S1 := fun Y => hK2.frame fun i hi => by
      have h := hK2.low i hi
      rw [Abs.getD_append_left (by rw [hA3, List.length_append]; omega), hA3, Abs.getD_append_left h]
    have hK40 := hK4 []
    rw [List.append_nil] at hK40
    rcases hr with ⟨rfl, rfl⟩ | ⟨j, rfl, hj, hg⟩
    · simp only [zW, zX, zD, builtinA, isLeaf, const1, ustrA, simprocAttr, ti3, ti4, ti5, ti9, ti22, ti31, ti33, ca13, ca14, ca15, ca16, ca17, ca18, cf, Tryz.results4]
      refine aloop_intro [3, 5, 9, 10] (fun e H => e = [(3, .slice (sEs s)), (5, .ptr A1.length 0), (9, .nils), (10, .int .i64 0)] ∧ H = A3) (fun e _ => 0) ?_ ?_
      · simp only [zW, zX, zD, builtinA, isLeaf, const1, ustrA, simprocAttr, ti3, ti4, ti5, ti9, ti22, ti31, ti33, ca13, ca14, ca15, ca16, ca17, ca18, cf, Tryz.results4]
      · rintro e H ⟨rfl, rfl⟩
        simp only [zW, zX, zD, builtinA, isLeaf, const1, ustrA, simprocAttr, ti3, ti4, ti5, ti9, ti22, ti31, ti33, ca13, ca14, ca15, ca16, ca17, ca18, cf, Tryz.results4, c10, enc_length, enc_take, enc_drop, frzL_enc, enc_closed, Option.map_some]
        refine callO_intro (borrowI (.cons (hK40.viewT k' m' n') .nil) rfl hval) ?_
        rintro r A' ⟨rfl, rfl⟩
        simp only [zW, zX, zD, builtinA, isLeaf, const1, ustrA, simprocAttr, ti3, ti4, ti5, ti9, ti22, ti31, ti33, ca13, ca14, ca15, ca16, ca17, ca18, cf, Tryz.results4]
    · have hjl : j < A3.length := live_lt hg (by simp)
      have hgY : ∀ Y, (A3 ++ Y).getD j .dead = .gr none 4 (nrows ns) := fun Y => by rw [Abs.getD_append_left hjl]; exact hg
      simp only [zW, zX, zD, builtinA, isLeaf, const1, ustrA, simprocAttr, ti3, ti4, ti5, ti9, ti22, ti31, ti33, ca13, ca14, ca15, ca16, ca17, ca18, cf, Tryz.results4]
      refine aloop_intro [3, 5, 9, 10] (fun e H => ∃ (i : Nat) (Y : List Box), i ≤ ns.length ∧ e = [(3, .slice (sEs s)), (5, .ptr A1.length 0), (9, .own j), (10, .int .i64 i)] ∧ H = A3 ++ Y) (fun e _ => ns.length - (intOf (Abs.look 10 e)).toNat) ?_ ?_
      · simp only [zW, zX, zD, builtinA, isLeaf, const1, ustrA, simprocAttr, ti3, ti4, ti5, ti9, ti22, ti31, ti33, ca13, ca14, ca15, ca16, ca17, ca18, cf, Tryz.results4]
        exact ⟨0, [], by omega, rfl, by simp⟩
      · rintro e H ⟨i, Y, hi, rfl, rfl⟩
        simp only [zW, zX, zD, builtinA, isLeaf, const1, ustrA, simprocAttr, ti3, ti4, ti5, ti9, ti22, ti31, ti33, ca13, ca14, ca15, ca16, ca17, ca18, cf, Tryz.results4, hgY, nrows_length]
        refine condK_intro (fun h2 => ?_) (fun h2 => ?_)
        · have hi2 : i < ns.length := by simpa using h2
          have hgi := nrows_getD hi2
          have hi1 : IntKind.i64.wrap ((i : Int) + 1) = ((i + 1 : Nat) : Int) := by rw [wrap64 (by omega) (by omega)]; rfl
          have pi : (0 : Int) ≤ (i : Int) ∧ (i : Int) < (ns.length : Int) := ⟨by omega, by omega⟩
          simp only [zW, zX, zD, builtinA, isLeaf, const1, ustrA, simprocAttr, ti3, ti4, ti5, ti9, ti22, ti31, ti33, ca13, ca14, ca15, ca16, ca17, ca18, cf, Tryz.results4, hgY, nrows_length, hgi]
          obtain ⟨op, hop⟩ := meanIs_ex s (false, (ns.getD i ([], [])).2)
          obtain ⟨k2, m2, n2, ks2, hρ2⟩ : ∃ k m n ks, oTyS op = .mk k m n ks := by cases oTyS op; exact ⟨_, _, _, _, rfl⟩
          have himp2 : ∀ A, ACalls Tryz.prog 14 [.slice (sEs s), .str (ns.getD i ([], [])).2] A (OutS A k2 m2 n2 ks2 op.isSome) := fun A => (hF _ op hop A).mono fun r A' h => outS_of hρ2 h
          have hpm : (ns.getD i ([], [])).1 = [] → op = some (.nm [] (ns.getD i ([], [])).2) := fun h => meanIs_one hop (hmn _ (Abs.getD_mem hi2) h)
          generalize ns.getD i ([], []) = p at *
          refine ⟨pi, ?_⟩
          refine callO_intro (himp2 _) ?_
          rintro r A5 ⟨B5, v5, S5, hA5, rfl, hK5, hN5, hR5⟩
          simp only [zW, zX, zD, builtinA, isLeaf, const1, ustrA, simprocAttr, ti3, ti4, ti5, ti9, ti22, ti31, ti33, ca13, ca14, ca15, ca16, ca17, ca18, cf, Tryz.results4, hgY, nrows_length, hgi]
          obtain ⟨Y6, hY6⟩ : ∃ Y6, A5 ++ [Box.cells [.int .i64 k2, .str m2, .str n2, v5]] = A3 ++ Y6 := ⟨_, by rw [hA5, List.append_assoc, List.append_assoc]⟩
          have c5 : (A3 ++ Y6).getD A5.length .dead = .cells [.int .i64 k2, .str m2, .str n2, v5] := by rw [← hY6, Abs.getD_append_right (Nat.le_refl _)]; simp
          have hK6 : OwnK (A3 ++ Y6) ks2 v5 S5 := by rw [← hY6]; exact hK5.frame fun i hi => Abs.getD_append_left (hR5 i hi).2
          rw [hY6]
          clear hA5 hK5 hY6
          refine .inl ⟨by kernel_rfl, by kernel_rfl, ?_⟩
          by_cases hp1 : p.1 = []
          · have hop2 := hpm hp1
            subst hop2
            have hts : ∀ A, ACalls Tryz.prog 16 [.agg (enc (.mk k2 m2 n2 ks2)), .agg [.int .i64 3, .str p.1, .str p.2, .slice []]] A (fun r A' => r = .bool true ∧ A' = A) := by
              have e : Ty.mk k2 m2 n2 ks2 = .mk 3 p.1 p.2 [] := by rw [← hρ2, hp1]; rfl
              intro A
              have h := impl_TypeSame (Ty.mk k2 m2 n2 ks2) (.mk 3 p.1 p.2 []) (by rw [← hρ2]; have := oTyS_sz hop; omega) (by rw [← e, ← hρ2]; have := oTyS_sz hop; omega) A
              rw [decide_eq_true e] at h
              have e3 := nty_enc p
              rw [nty] at e3
              rwa [e3] at h
            simp only [zW, zX, zD, builtinA, isLeaf, const1, ustrA, simprocAttr, ti3, ti4, ti5, ti9, ti22, ti31, ti33, ca13, ca14, ca15, ca16, ca17, ca18, cf, Tryz.results4, hgY, nrows_length, hgi, c5, decide_eq_true hp1, enc_length, enc_take, enc_drop, frzL_enc, enc_closed, Option.map_some]
            refine ⟨pi, pi, ?_⟩
            refine callDO_intro (borrowI (.cons (hK6.viewT k2 m2 n2) (.cons (by have h := viewNS (A3 ++ Y6) (nty p); rwa [nty_enc] at h) .nil)) rfl hts) ?_
            simp only [zW, zX, zD, builtinA, isLeaf, const1, ustrA, simprocAttr, ti3, ti4, ti5, ti9, ti22, ti31, ti33, ca13, ca14, ca15, ca16, ca17, ca18, cf, Tryz.results4, hi1, LoopK_eq]
            refine ⟨⟨i + 1, Y6, by omega, rfl, rfl⟩, ?_⟩
            simp only [intOf]; omega
          · simp only [zW, zX, zD, builtinA, isLeaf, const1, ustrA, simprocAttr, ti3, ti4, ti5, ti9, ti22, ti31, ti33, ca13, ca14, ca15, ca16, ca17, ca18, cf, Tryz.results4, hgY, nrows_length, hgi, c5, decide_eq_false hp1, enc_length, enc_take, enc_drop, frzL_enc, enc_closed, Option.map_some]
            refine ⟨pi, ?_⟩
            simp only [zW, zX, zD, builtinA, isLeaf, const1, ustrA, simprocAttr, ti3, ti4, ti5, ti9, ti22, ti31, ti33, ca13, ca14, ca15, ca16, ca17, ca18, cf, Tryz.results4, hi1, LoopK_eq]
            refine ⟨⟨i + 1, Y6, by omega, rfl, rfl⟩, ?_⟩
            simp only [intOf]; omega
        · simp only [zW, zX, zD, builtinA, isLeaf, const1, ustrA, simprocAttr, ti3, ti4, ti5, ti9, ti22, ti31, ti33, ca13, ca14, ca15, ca16, ca17, ca18, cf, Tryz.results4, c1, enc_length, enc_take, enc_drop, frzL_enc, enc_closed, Option.map_some]
          refine callO_intro (borrowI (.cons ((hK4 Y).viewT k' m' n') .nil) rfl hval) ?_
          rintro r A' ⟨rfl, rfl⟩
          simp only [zW, zX, zD, builtinA, isLeaf, const1, ustrA, simprocAttr, ti3, ti4, ti5, ti9, ti22, ti31, ti33, ca13, ca14, ca15, ca16, ca17, ca18, cf, Tryz.results4]
theorem findType_rec : ∀ t ∈ Tryz.f4.params.toList, Tryz.prog.readableRec t = true ∧ t < Tryz.prog.types.size := by
  rw [Tryz.params4]
  intro t ht
  simp at ht
  subst ht
  exact ⟨by kernel_rfl, of_decide_eq_true (by kernel_rfl)⟩
set_option maxRecDepth 100000 in
theorem findType_lifted (os : Os) (started : os.Started) (H : Type) (enc' : TypeId × Value → H) :
    ReturnsInHanded {} Tryz.checked os 4 .any (Rows.fnFindTypeSpec.pre6 enc' Tryz.prog Tryz.f4 Rows.fnFindTypeRow.domain false) (Rows.fnFindTypeSpec.post enc' Tryz.prog Tryz.f4 false true false false) := by
  refine returnsInHanded_of_change (C := Tryz.checked) ownk started (by kernel_rfl) Tryz.func4
    (ChangeSpec.witness6 (enc := enc') (C := Tryz.checked) false ⟨#[], #[.slice none 0 0], []⟩ 8 (by kernel_rfl) (by kernel_rfl) (by kernel_rfl) (by kernel_rfl)) ?_
  intro W base args ds gs before hval0 hW hcnd _
  have hval : ∀ (j : Nat) t v, Tryz.f4.params[j]? = some t → args[j]? = some v → Value.okWide Tryz.prog W .any base t v := hval0
  have hW' := hW
  obtain ⟨p, q, hA0, hV, rfl, hfz, hnd⟩ := hW
  have hA : DataW.TrodAll enc' Tryz.prog W 0 (fun _ => true) true Tryz.f4.params.toList args.toList ds p := hA0
  rw [Tryz.params4] at hA hval
  have hlt := hA.lt
  obtain ⟨v0, d0, rfl, rfl, h0⟩ := trodAll_one hA
  obtain ⟨rfl, rfl⟩ := trodVars_none hV
  obtain ⟨x0, r0⟩ := rv_bytes Tryz.underlying22 Tryz.underlying5 (by kernel_rfl) (hval 0 22 v0 rfl rfl) h0 (fun x hx => hlt x (by simp [hx]))
  refine (law_calls (findType_true x0) (.cons r0 .nil)).mono fun e W' ⟨he, hb⟩ => ?_
  subst he
  exact ⟨_, rfl, law_post laid findType_rec rfl Tryz.underlying4 (by kernel_rfl) ⟨rfl, rfl⟩ rfl hW' hb⟩
theorem findType_holds : Rows.FnFindTypeSaid :=
  OpenClaim.holds_of_wide 4 Tryz.f4 rfl rfl rfl rfl rfl rfl rfl ⟨rfl, rfl, rfl, rfl, rfl⟩ rfl rfl rfl rfl rfl (by kernel_rfl) Tryz.func4 (by kernel_rfl)
    (of_decide_eq_true (by kernel_rfl)) (by unfold Func.isWrapper; first | (rw [if_pos (by decide +kernel)]; kernel_rfl) | (rw [if_neg (by decide +kernel)]; exact ⟨rfl, rfl⟩))
    (fun os started H enc' _ => findType_lifted os started H enc')
end Go.Proofs.YtmgppdedcciogaaGreat
