/- Whatever the two signatures that are drawn: SigSame answers as the model says, whichever comes first; each is the same as itself; two that have texts are the same exactly where their texts are. No condition beside the row's own. -/
import Derived.Test.YtpoknljchikklaaGreatK12
set_option linter.unusedVariables false
set_option linter.unusedSimpArgs false
namespace Go.Proofs.YtpoknljchikklaaGreat
open Go.Abs Go.RowKit Go.ChangeShapes Go.WideShapes Go.ChangeAt Go.ChangeMaps

theorem szIs_bd : ∀ (l : List SigI) (b : Nat), (∀ x ∈ l, szI x ≤ b) → szIs l ≤ l.length * b
  | [], b, _ => by simp [szIs]
  | x :: l, b, h => by
    have h1 := h x (by simp)
    have h2 := szIs_bd l b fun y hy => h y (by simp [hy])
    simp only [szIs, List.map_cons, List.sum_cons, List.length_cons] at h2 ⊢
    rw [Nat.succ_mul]; omega
theorem smx_all {s : List SigI} (hs : s.length ≤ 9) (hm : ∀ x ∈ s, SmX x) : (∀ x ∈ s, x.Ok ∧ sz x.typ ≤ 1048576) ∧ s.length + szIs s ≤ 1048576 := by
  refine ⟨fun x hx => (hm x hx).ok, ?_⟩
  have h2 := szIs_bd s 300 fun x hx => by
    have h3 : x.name.length ≤ 2 ∧ sz x.typ ≤ 200 := hm x hx
    rw [szI]; omega
  omega

set_option maxRecDepth 100000 in
set_option maxHeartbeats 4000000 in
theorem sigSame_true (bs : List UInt8) : ACalls Tryz.prog 3 [.aslice (byteRows bs)] [] (fun v _ => v = .bool true) := by
  by_cases hb : 1048576 < bs.length
  · have e1 : decide ((1048576 : Int) < bs.length) = true := decide_eq_true (by omega)
    refine acalls_enter (cf := cf 54 [0, 2, 3, 4, 5, 6, 7, 10, 36]) foll Tryz.func3 Tryz.ntmps3 (by simp [cf]) ?_
    simp only [Tryz.f3, EnterK_some, zW, zX, zD, builtinA, isLeaf, const1, ustrA, simprocAttr, ti3, ti4, ti5, ti9, ti22, ca12, ca13, ca14, ca15, cf, Tryz.results3]
    simp only [zW, zX, zD, builtinA, isLeaf, const1, ustrA, simprocAttr, ti3, ti4, ti5, ti9, ti22, ca12, ca13, ca14, ca15, cf, Tryz.results3, byteRows_length, e1]
  have e1 : decide ((1048576 : Int) < bs.length) = false := decide_eq_false (by omega)
  refine acalls_enter (cf := cf 54 [0, 2, 3, 4, 5, 6, 7, 10, 36]) foll Tryz.func3 Tryz.ntmps3 (by simp [cf]) ?_
  simp only [Tryz.f3, EnterK_some, zW, zX, zD, builtinA, isLeaf, const1, ustrA, simprocAttr, ti3, ti4, ti5, ti9, ti22, ca12, ca13, ca14, ca15, cf, Tryz.results3]
  simp only [zW, zX, zD, builtinA, isLeaf, const1, ustrA, simprocAttr, ti3, ti4, ti5, ti9, ti22, ca12, ca13, ca14, ca15, cf, Tryz.results3, byteRows_length, e1]
  refine callK_intro (by simp only [zW, zX, zD, builtinA, isLeaf, const1, ustrA, simprocAttr]; rfl) (spec_DrawSigSame bs _) ?_ rfl
  rintro v A' ⟨s, t, rfl, hs, hsm, ht, htm, rfl⟩
  obtain ⟨hso, hsz⟩ := smx_all hs hsm
  obtain ⟨hto, htz⟩ := smx_all ht htm
  have hst := impl_SigSame s t hsz htz
  have hts := impl_SigSame t s htz hsz
  have hss := impl_SigSame s s hsz hsz
  have hsp := spec_SigSame s t (fun x hx => (hso x hx).1) (by omega)
  rw [sisB_comm t s] at hts
  rw [sisB_refl] at hss
  obtain ⟨u, hu⟩ := txtIs_ex s
  obtain ⟨v, hv⟩ := txtIs_ex t
  have hfu := impl_FormatSig s (by omega) hso u hu
  have hfv := impl_FormatSig t (by omega) hto v hv
  have hne : ∀ x : Bool, decide (¬ x = x) = false := fun x => by simp
  have key := txtIs_same hu hv
  generalize sisB s t = b at *
  simp only [zW, zX, zD, builtinA, isLeaf, const1, ustrA, simprocAttr, ti3, ti4, ti5, ti9, ti22, ca12, ca13, ca14, ca15, cf, Tryz.results3]
  refine callO_intro (hst _) ?_
  rintro r A' ⟨rfl, rfl⟩
  simp only [zW, zX, zD, builtinA, isLeaf, const1, ustrA, simprocAttr, ti3, ti4, ti5, ti9, ti22, ca12, ca13, ca14, ca15, cf, Tryz.results3]
  refine callO_intro (hsp _) ?_
  rintro r A' ⟨rfl, rfl⟩
  simp only [zW, zX, zD, builtinA, isLeaf, const1, ustrA, simprocAttr, ti3, ti4, ti5, ti9, ti22, ca12, ca13, ca14, ca15, cf, Tryz.results3, hne]
  refine callO_intro (hts _) ?_
  rintro r A' ⟨rfl, rfl⟩
  simp only [zW, zX, zD, builtinA, isLeaf, const1, ustrA, simprocAttr, ti3, ti4, ti5, ti9, ti22, ca12, ca13, ca14, ca15, cf, Tryz.results3, hne]
  refine callO_intro (hss _) ?_
  rintro r A' ⟨rfl, rfl⟩
  simp only [zW, zX, zD, builtinA, isLeaf, const1, ustrA, simprocAttr, ti3, ti4, ti5, ti9, ti22, ca12, ca13, ca14, ca15, cf, Tryz.results3]
  refine callO_intro (hfu _) ?_
  rintro r A' ⟨rfl, rfl⟩
  simp only [zW, zX, zD, builtinA, isLeaf, const1, ustrA, simprocAttr, ti3, ti4, ti5, ti9, ti22, ca12, ca13, ca14, ca15, cf, Tryz.results3]
  refine callO_intro (hfv _) ?_
  rintro r A' ⟨rfl, rfl⟩
  by_cases u0 : u = []
  · simp only [zW, zX, zD, builtinA, isLeaf, const1, ustrA, simprocAttr, ti3, ti4, ti5, ti9, ti22, ca12, ca13, ca14, ca15, cf, Tryz.results3, decide_eq_true u0]
  · by_cases v0 : v = []
    · simp only [zW, zX, zD, builtinA, isLeaf, const1, ustrA, simprocAttr, ti3, ti4, ti5, ti9, ti22, ca12, ca13, ca14, ca15, cf, Tryz.results3, decide_eq_false u0, decide_eq_true v0]
    · simp only [zW, zX, zD, builtinA, isLeaf, const1, ustrA, simprocAttr, ti3, ti4, ti5, ti9, ti22, ca12, ca13, ca14, ca15, cf, Tryz.results3, decide_eq_false u0, decide_eq_false v0]
      have k := key u0 v0
      by_cases huv : u = v
      · rw [k.2 huv, decide_eq_true huv]; rfl
      · have hbf : b = false := by
          cases b with
          | false => rfl
          | true => exact absurd (k.1 rfl) huv
        rw [hbf, decide_eq_false huv]; rfl
theorem sigSame_rec : ∀ t ∈ Tryz.f3.params.toList, Tryz.prog.readableRec t = true ∧ t < Tryz.prog.types.size := by
  rw [Tryz.params3]
  intro t ht
  simp at ht
  subst ht
  exact ⟨by kernel_rfl, of_decide_eq_true (by kernel_rfl)⟩
set_option maxRecDepth 100000 in
theorem sigSame_lifted (os : Os) (started : os.Started) (H : Type) (enc' : TypeId × Value → H) :
    ReturnsInHanded {} Tryz.checked os 3 .any (Rows.fnSigSameSpec.pre6 enc' Tryz.prog Tryz.f3 Rows.fnSigSameRow.domain false) (Rows.fnSigSameSpec.post enc' Tryz.prog Tryz.f3 false true false false) := by
  refine returnsInHanded_of_change (C := Tryz.checked) ownk started (by kernel_rfl) Tryz.func3
    (ChangeSpec.witness6 (enc := enc') (C := Tryz.checked) false ⟨#[], #[.slice none 0 0], []⟩ 8 (by kernel_rfl) (by kernel_rfl) (by kernel_rfl) (by kernel_rfl)) ?_
  intro W base args ds gs before hval0 hW hcnd _
  have hval : ∀ (j : Nat) t v, Tryz.f3.params[j]? = some t → args[j]? = some v → Value.okWide Tryz.prog W .any base t v := hval0
  have hW' := hW
  obtain ⟨p, q, hA0, hV, rfl, hfz, hnd⟩ := hW
  have hA : DataW.TrodAll enc' Tryz.prog W 0 (fun _ => true) true Tryz.f3.params.toList args.toList ds p := hA0
  rw [Tryz.params3] at hA hval
  have hlt := hA.lt
  obtain ⟨v0, d0, rfl, rfl, h0⟩ := trodAll_one hA
  obtain ⟨rfl, rfl⟩ := trodVars_none hV
  obtain ⟨x0, r0⟩ := rv_bytes Tryz.underlying22 Tryz.underlying5 (by kernel_rfl) (hval 0 22 v0 rfl rfl) h0 (fun x hx => hlt x (by simp [hx]))
  refine (law_calls (sigSame_true x0) (.cons r0 .nil)).mono fun e W' ⟨he, hb⟩ => ?_
  subst he
  exact ⟨_, rfl, law_post laid sigSame_rec rfl Tryz.underlying4 (by kernel_rfl) ⟨rfl, rfl⟩ rfl hW' hb⟩
theorem sigSame_facts : joinedFacts Tryz.pinned.checked.prog 3 Tryz.f3 Rows.fnSigSameSpec Rows.fnSigSameRow = true := by kernel_rfl
theorem sigSame_holds : Rows.FnSigSameSaid :=
  OpenClaim.holds_of_wide 3 Tryz.f3 rfl rfl rfl rfl rfl rfl rfl ⟨rfl, rfl, rfl, rfl, rfl⟩ rfl rfl rfl rfl rfl (by kernel_rfl) Tryz.func3 sigSame_facts
    (of_decide_eq_true (by kernel_rfl)) (by unfold Func.isWrapper; first | (rw [if_pos (by decide +kernel)]; kernel_rfl) | (rw [if_neg (by decide +kernel)]; exact ⟨rfl, rfl⟩))
    (fun os started H enc' _ => sigSame_lifted os started H enc')
end Go.Proofs.YtpoknljchikklaaGreat

