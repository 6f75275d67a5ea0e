/- Whatever the signature and the name that are drawn: FindVal answers as the model says, and as the normal signature's item of that name. No condition beside the row's own. -/
import Derived.Test.YtmgppdedcciogaaGreatPreFacts
import Derived.Test.YtmgppdedcciogaaGreatSigFT
import Derived.Test.YtmgppdedcciogaaGreatSubOutS
import Derived.Test.YtmgppdedcciogaaGreatSameA2
import Derived.Test.YtmgppdedcciogaaGreatAbsW3
set_option linter.unusedVariables false
set_option linter.unusedSimpArgs false
namespace Go.Proofs.YtmgppdedcciogaaGreat
open Go.Abs Go.RowKit Go.ChangeShapes Go.WideShapes Go.ChangeAt Go.ChangeMaps

theorem OwnG.row {A : List Box} : ∀ {bs : List SigI} {rows : List (List AV)} {S : List Nat}, OwnG A bs rows S → ∀ k, k < bs.length → ∃ w S1, rows.getD k [] = sRow (bs.getD k si0) w ∧ OwnK A (bs.getD k si0).typ.kids w S1
  | [], rows, S, h, k, hk => by simp at hk
  | b :: bs, rows, S, h, k, hk => by
    rw [OwnG] at h
    obtain ⟨v, rows', S1, S2, rfl, h2, h3, h4⟩ := h
    cases k with
    | zero => exact ⟨v, S1, rfl, h3⟩
    | succ k =>
      obtain ⟨w, S', e, h5⟩ := OwnG.row h4 k (by simpa using hk)
      exact ⟨w, S', by simpa using e, by simpa using h5⟩
def isV (nm : List UInt8) : VI → Bool
  | .va n _ => decide (n = nm)
  | _ => false
theorem isV_key {nm : List UInt8} {y : VI} : isV nm y = true ↔ viK y = (true, nm) := by
  cases y <;> simp [isV, viK]
theorem any_iff {s : List SigI} {zs : List VI} (hr : RdN s (some zs)) {nm : List UInt8} {o : Option VT} (ho : MeanIs s (true, nm) o) : o.isSome = zs.any (isV nm) := by
  rcases ho with ⟨zs', hr', hf⟩ | ⟨hr', rfl⟩
  · have e := rdN_one hr' hr
    subst e
    cases o with
    | none =>
      cases hx : zs'.any (isV nm) with
      | false => rfl
      | true =>
        obtain ⟨y, hy, hk⟩ := List.any_eq_true.1 hx
        obtain ⟨k, hk1, rfl⟩ := List.mem_iff_getElem.1 hy
        exact absurd (by rw [show zs'.getD k vi0 = zs'[k] by simp [List.getD, hk1]]; exact isV_key.1 hk) (hf k hk1)
    | some v =>
      obtain ⟨k, hk, hk2, _⟩ := hf
      symm
      rw [Option.isSome_some, List.any_eq_true]
      exact ⟨_, Abs.getD_mem hk, isV_key.2 hk2⟩
  · exact absurd hr' (rdN_not hr)
theorem at_mean {s : List SigI} {zs : List VI} (hr : RdN s (some zs)) {nm : List UInt8} {o : Option VT} (ho : MeanIs s (true, nm) o) {k : Nat} (hk : k < zs.length) (h : isV nm (zs.getD k vi0) = true) : o = some (meanI (zs.getD k vi0)) :=
  meanIs_one ho (.inl ⟨zs, hr, k, hk, isV_key.1 h, rfl⟩)
theorem si_kind (nm : List UInt8) (y : VI) : (decide ((siOf y).kind = 3) && decide ((siOf y).name = nm)) = isV nm y := by
  rw [Bool.eq_iff_iff]
  cases y with
  | ab n => simp [siOf, isV]
  | al n v => simp [siOf, isV]
  | va n v => simp [siOf, isV]; exact decide_eq_true_iff
theorem si_typ {nm : List UInt8} {y : VI} (h : isV nm y = true) : (siOf y).typ = toTy (meanI y) := by
  cases y with
  | ab n => cases h
  | al n v => cases h
  | va n v => rfl

set_option maxRecDepth 100000 in
set_option maxHeartbeats 4000000 in
theorem findVal_true (bs : List UInt8) : ACalls Tryz.prog 5 [.aslice (byteRows bs)] [] (fun v _ => v = .bool true) := by
  by_cases hb : 1048576 < bs.length
  · have e1 : decide ((1048576 : Int) < bs.length) = true := decide_eq_true (by omega)
    refine acalls_enter (cf := cf 98 [0, 2, 3, 4, 5, 6, 7, 8, 9, 10, 11, 12, 15, 50, 70, 87]) foll Tryz.func5 Tryz.ntmps5 (by simp [cf]) ?_
    simp only [Tryz.f5, EnterK_some, zW, zX, zD, builtinA, isLeaf, const1, ustrA, simprocAttr, ti3, ti4, ti5, ti9, ti22, ti23, ti33, ti42, ca16, ca19, ca20, ca21, ca22, cf, Tryz.results5]
    simp only [zW, zX, zD, builtinA, isLeaf, const1, ustrA, simprocAttr, ti3, ti4, ti5, ti9, ti22, ti23, ti33, ti42, ca16, ca19, ca20, ca21, ca22, cf, Tryz.results5, byteRows_length, e1]
  have e1 : decide ((1048576 : Int) < bs.length) = false := decide_eq_false (by omega)
  refine acalls_enter (cf := cf 98 [0, 2, 3, 4, 5, 6, 7, 8, 9, 10, 11, 12, 15, 50, 70, 87]) foll Tryz.func5 Tryz.ntmps5 (by simp [cf]) ?_
  simp only [Tryz.f5, EnterK_some, zW, zX, zD, builtinA, isLeaf, const1, ustrA, simprocAttr, ti3, ti4, ti5, ti9, ti22, ti23, ti33, ti42, ca16, ca19, ca20, ca21, ca22, cf, Tryz.results5]
  simp only [zW, zX, zD, builtinA, isLeaf, const1, ustrA, simprocAttr, ti3, ti4, ti5, ti9, ti22, ti23, ti33, ti42, ca16, ca19, ca20, ca21, ca22, cf, Tryz.results5, byteRows_length, e1]
  refine callK_intro (by simp only [zW, zX, zD, builtinA, isLeaf, const1, ustrA, simprocAttr]; rfl) (spec_DrawFindVal bs _) ?_ rfl
  rintro v A' ⟨s, nm, rfl, hs, hsm, rfl⟩
  obtain ⟨hso, hsz⟩ := smx_all hs hsm
  obtain ⟨o, ho⟩ := meanIs_ex s (true, nm)
  obtain ⟨on, hon⟩ := rdN_ex s
  obtain ⟨k', m', n', ks', hρ⟩ : ∃ k m n ks, oTyS o = .mk k m n ks := by cases oTyS o; exact ⟨_, _, _, _, rfl⟩
  have hszρ := oTyS_sz ho
  have hspec : ∀ A, ACalls Tryz.prog 21 [.slice (sEs s), .str nm] A (fun r A' => r = .tuple [.agg (enc (.mk k' m' n' ks')), .bool o.isSome] ∧ A' = A) := fun A => (spec_FindVal s (by omega) hso nm A).mono fun r A' h => by
    obtain ⟨o', h1, h2, h3⟩ := h
    rw [meanIs_one h1 ho] at h2
    exact ⟨by rw [h2, hρ], h3⟩
  have himpl : ∀ A, ACalls Tryz.prog 20 [.slice (sEs s), .str nm] A (OutS A k' m' n' ks' o.isSome) := fun A => (new_call (fun A => (impl_FindVal s (by omega) hso nm A).mono fun r A' h => by
    obtain ⟨o', h1, h2⟩ := h
    rw [meanIs_one h1 ho] at h2
    exact h2) A).mono fun r A' h => outS_of hρ h
  have hnorm : ∀ A, ACalls Tryz.prog 22 [.slice (sEs s)] A (SgNew A (nrX on) on.isSome) := sg_call fun A => (impl_NormalSig s (by omega) hso A).mono fun r A' h => by
    obtain ⟨o', h1, h2⟩ := h
    rw [rdN_eq h1 hon] at h2
    exact h2
  have htr := fun A => impl_TypeSame (.mk k' m' n' ks') (.mk k' m' n' ks') (by rw [← hρ]; omega) (by rw [← hρ]; omega) A
  rw [decide_eq_true rfl] at htr
  have hne : ∀ x : Bool, decide (¬ x = x) = false := fun x => by simp
  simp only [zW, zX, zD, builtinA, isLeaf, const1, ustrA, simprocAttr, ti3, ti4, ti5, ti9, ti22, ti23, ti33, ti42, ca16, ca19, ca20, ca21, ca22, cf, Tryz.results5, enc_length, enc_take, enc_drop, frzL_enc, enc_closed, Option.map_some]
  refine callO_intro (himpl _) ?_
  rintro r A1 ⟨B1, v1, S1, rfl, rfl, hK1, hN1, hR1⟩
  simp only [zW, zX, zD, builtinA, isLeaf, const1, ustrA, simprocAttr, ti3, ti4, ti5, ti9, ti22, ti23, ti33, ti42, ca16, ca19, ca20, ca21, ca22, cf, Tryz.results5, enc_length, enc_take, enc_drop, frzL_enc, enc_closed, Option.map_some]
  refine callO_intro (hspec _) ?_
  rintro r A2 ⟨rfl, rfl⟩
  simp only [zW, zX, zD, builtinA, isLeaf, const1, ustrA, simprocAttr, ti3, ti4, ti5, ti9, ti22, ti23, ti33, ti42, ca16, ca19, ca20, ca21, ca22, cf, Tryz.results5, enc_length, enc_take, enc_drop, frzL_enc, enc_closed, Option.map_some, hne]
  obtain ⟨A2, hA2⟩ : ∃ A2, A2 = A1 ++ [Box.cells [.int .i64 k', .str m', .str n', v1], .cells (enc (.mk k' m' n' ks'))] := ⟨_, rfl⟩
  have b1 : A2.getD A1.length .dead = .cells [.int .i64 k', .str m', .str n', v1] := by rw [hA2, Abs.getD_append_right (Nat.le_refl _)]; simp
  have b2 : A2.getD (A1.length + 1) .dead = .cells (enc (.mk k' m' n' ks')) := by rw [hA2, Abs.getD_append_right (by omega)]; simp [List.getD]
  have l2 : A1.length + 1 < A2.length := by rw [hA2]; simp
  have l1 : A1.length < A2.length := by omega
  have hK2 : OwnK A2 ks' v1 S1 := by rw [hA2]; exact hK1.frame fun i hi => Abs.getD_append_left (hR1 i hi).2
  rw [← hA2]
  clear hA2 hK1
  refine callO_intro (hnorm _) ?_
  rintro r A3 ⟨B3, v3, S3, hA3, hB3, rfl, hv3, hK3, hN3, hR3⟩
  have c1 : A3.getD A1.length .dead = .cells [.int .i64 k', .str m', .str n', v1] := by rw [hA3, Abs.getD_append_left l1]; exact b1
  have c2 : A3.getD (A1.length + 1) .dead = .cells (enc (.mk k' m' n' ks')) := by rw [hA3, Abs.getD_append_left l2]; exact b2
  have hK4 : OwnK A3 ks' v1 S1 := hK2.frame fun i hi => by rw [hA3, Abs.getD_append_left (hK2.low i hi)]
  clear hA3 hB3 hR3 hN3 hN1 hR1 hK2 b1 b2 l1 l2
  simp only [zW, zX, zD, builtinA, isLeaf, const1, ustrA, simprocAttr, ti3, ti4, ti5, ti9, ti22, ti23, ti33, ti42, ca16, ca19, ca20, ca21, ca22, cf, Tryz.results5, c1, c2, hne, enc_length, enc_take, enc_drop, frzL_enc, enc_closed, Option.map_some]
  refine callO_intro (borrowI (.cons (hK4.viewT k' m' n') (.cons (viewNS _ _) .nil)) rfl htr) ?_
  rintro r A' ⟨rfl, rfl⟩
  cases on with
  | none =>
    have ho2 : o = none := by
      rcases ho with ⟨zs, h, _⟩ | ⟨_, h⟩
      · exact absurd hon (rdN_not h)
      · exact h
    subst ho2
    simp only [zW, zX, zD, builtinA, isLeaf, const1, ustrA, simprocAttr, ti3, ti4, ti5, ti9, ti22, ti23, ti33, ti42, ca16, ca19, ca20, ca21, ca22, cf, Tryz.results5, c1, c2, hne, enc_length, enc_take, enc_drop, frzL_enc, enc_closed, Option.map_some, Option.isSome_none]
    refine callO_intro (borrowI (.cons (hK4.viewT k' m' n') (.cons (viewNS _ _) .nil)) rfl htr) ?_
    rintro r A' ⟨rfl, rfl⟩
    simp only [zW, zX, zD, builtinA, isLeaf, const1, ustrA, simprocAttr, ti3, ti4, ti5, ti9, ti22, ti23, ti33, ti42, ca16, ca19, ca20, ca21, ca22, cf, Tryz.results5]
  | some zs =>
    have hz8 := rdN_len hon
    have hany := any_iff hon ho
    have hat := fun k hk => at_mean hon ho (k := k) hk
    rw [hany]
    rw [hany] at hspec himpl
    have hxl : (nrX (some zs)).length = zs.length := by simp [nrX]
    have hxg : ∀ i, i < zs.length → (nrX (some zs)).getD i si0 = siOf (zs.getD i vi0) := fun i hi => by simp [nrX, List.getD, hi]
    simp only [zW, zX, zD, builtinA, isLeaf, const1, ustrA, simprocAttr, ti3, ti4, ti5, ti9, ti22, ti23, ti33, ti42, ca16, ca19, ca20, ca21, ca22, cf, Tryz.results5, c1, c2, hne, enc_length, enc_take, enc_drop, frzL_enc, enc_closed, Option.map_some, Option.isSome_some]
    rcases hK3 with ⟨rfl, hx0, _⟩ | ⟨j, rows, S', rfl, rfl, hg, hG⟩
    · have hz0 : zs = [] := by cases zs with
        | nil => rfl
        | cons y zs => simp [nrX] at hx0
      subst hz0
      refine aloop_intro [4, 5, 6, 9, 11, 12] (fun e H => e = [(4, .str nm), (5, .ptr A1.length 0), (6, .bool false), (9, .nils), (11, .bool false), (12, .int .i64 0)] ∧ H = A') (fun e _ => 0) ?_ ?_
      · simp only [zW, zX, zD, builtinA, isLeaf, const1, ustrA, simprocAttr, ti3, ti4, ti5, ti9, ti22, ti23, ti33, ti42, ca16, ca19, ca20, ca21, ca22, cf, Tryz.results5]
        rfl
      · rintro e H ⟨rfl, rfl⟩
        simp only [zW, zX, zD, builtinA, isLeaf, const1, ustrA, simprocAttr, ti3, ti4, ti5, ti9, ti22, ti23, ti33, ti42, ca16, ca19, ca20, ca21, ca22, cf, Tryz.results5]
    · have hrl := hG.length
      rw [hxl] at hrl
      refine aloop_intro [4, 5, 6, 9, 11, 12] (fun e H => ∃ (i : Nat), i ≤ zs.length ∧ e = [(4, .str nm), (5, .ptr A1.length 0), (6, .bool (zs.any (isV nm))), (9, .own j), (11, .bool ((zs.take i).any (isV nm))), (12, .int .i64 i)] ∧ H = A') (fun e _ => zs.length - (intOf (Abs.look 12 e)).toNat) ?_ ?_
      · simp only [zW, zX, zD, builtinA, isLeaf, const1, ustrA, simprocAttr, ti3, ti4, ti5, ti9, ti22, ti23, ti33, ti42, ca16, ca19, ca20, ca21, ca22, cf, Tryz.results5]
        exact ⟨0, by omega, rfl⟩
      · rintro e H ⟨i, hi, rfl, rfl⟩
        simp only [zW, zX, zD, builtinA, isLeaf, const1, ustrA, simprocAttr, ti3, ti4, ti5, ti9, ti22, ti23, ti33, ti42, ca16, ca19, ca20, ca21, ca22, cf, Tryz.results5, hg, hrl]
        refine condK_intro (fun h2 => ?_) (fun h2 => ?_)
        · have hi2 : i < zs.length := by simpa using h2
          have hi1 : IntKind.i64.wrap ((i : Int) + 1) = ((i + 1 : Nat) : Int) := by rw [wrap64 (by omega) (by omega)]; rfl
          have pi : (0 : Int) ≤ (i : Int) ∧ (i : Int) < (zs.length : Int) := ⟨by omega, by omega⟩
          obtain ⟨w, Sw, hrow, hKw⟩ := hG.row i (by rw [hxl]; exact hi2)
          rw [hxg i hi2] at hrow hKw
          rw [sRow] at hrow
          have hsk := si_kind nm (zs.getD i vi0)
          have htk : (zs.take (i + 1)).any (isV nm) = ((zs.take i).any (isV nm) || isV nm (zs.getD i vi0)) := by
            rw [List.take_add_one, List.any_append]; simp [List.getD, hi2]
          have hti := hat i hi2
          have hst := si_typ (nm := nm) (y := zs.getD i vi0)
          generalize zs.getD i vi0 = y at *
          simp only [zW, zX, zD, builtinA, isLeaf, const1, ustrA, simprocAttr, ti3, ti4, ti5, ti9, ti22, ti23, ti33, ti42, ca16, ca19, ca20, ca21, ca22, cf, Tryz.results5, hg, hrl, hrow]
          refine ⟨pi, ?_⟩
          by_cases k3 : (siOf y).kind = 3
          · by_cases kn : (siOf y).name = nm
            · have hv : isV nm y = true := by rw [← hsk, decide_eq_true k3, decide_eq_true kn]; rfl
              have ho2 := hti hv
              subst ho2
              have het : (siOf y).typ = .mk k' m' n' ks' := by rw [hst hv]; exact hρ
              have hrow2 : rows.getD i [] = [.int .i64 (siOf y).kind, .str (siOf y).name, .int .i64 k', .str m', .str n', w] := by rw [hrow, het]; rfl
              rw [het] at hKw
              simp only [zW, zX, zD, builtinA, isLeaf, const1, ustrA, simprocAttr, ti3, ti4, ti5, ti9, ti22, ti23, ti33, ti42, ca16, ca19, ca20, ca21, ca22, cf, Tryz.results5, hg, hrl, hrow2, decide_eq_true k3, decide_eq_true kn]
              refine ⟨pi, ?_⟩
              refine .inl ⟨by kernel_rfl, by kernel_rfl, ?_⟩
              simp only [zW, zX, zD, builtinA, isLeaf, const1, ustrA, simprocAttr, ti3, ti4, ti5, ti9, ti22, ti23, ti33, ti42, ca16, ca19, ca20, ca21, ca22, cf, Tryz.results5, hg, hrl, hrow2, c1]
              refine ⟨pi, ?_⟩
              refine callDO_intro (borrowI (.cons (hKw.viewT k' m' n') (.cons (hK4.viewT k' m' n') .nil)) rfl htr) ?_
              simp only [zW, zX, zD, builtinA, isLeaf, const1, ustrA, simprocAttr, ti3, ti4, ti5, ti9, ti22, ti23, ti33, ti42, ca16, ca19, ca20, ca21, ca22, cf, Tryz.results5, hi1, LoopK_eq]
              refine ⟨⟨i + 1, by omega, by rw [htk, hv, Bool.or_true]⟩, ?_⟩
              simp only [intOf]; omega
            · have hv : isV nm y = false := by rw [← hsk, decide_eq_true k3, decide_eq_false kn]; rfl
              simp only [zW, zX, zD, builtinA, isLeaf, const1, ustrA, simprocAttr, ti3, ti4, ti5, ti9, ti22, ti23, ti33, ti42, ca16, ca19, ca20, ca21, ca22, cf, Tryz.results5, hg, hrl, hrow, decide_eq_true k3, decide_eq_false kn]
              refine ⟨pi, ?_⟩
              simp only [zW, zX, zD, builtinA, isLeaf, const1, ustrA, simprocAttr, ti3, ti4, ti5, ti9, ti22, ti23, ti33, ti42, ca16, ca19, ca20, ca21, ca22, cf, Tryz.results5, hi1, LoopK_eq]
              refine ⟨⟨i + 1, by omega, by rw [htk, hv, Bool.or_false]⟩, ?_⟩
              simp only [intOf]; omega
          · have hv : isV nm y = false := by rw [← hsk, decide_eq_false k3]; rfl
            simp only [zW, zX, zD, builtinA, isLeaf, const1, ustrA, simprocAttr, ti3, ti4, ti5, ti9, ti22, ti23, ti33, ti42, ca16, ca19, ca20, ca21, ca22, cf, Tryz.results5, hg, hrl, hrow, decide_eq_false k3]
            simp only [zW, zX, zD, builtinA, isLeaf, const1, ustrA, simprocAttr, ti3, ti4, ti5, ti9, ti22, ti23, ti33, ti42, ca16, ca19, ca20, ca21, ca22, cf, Tryz.results5, hi1, LoopK_eq]
            refine ⟨⟨i + 1, by omega, by rw [htk, hv, Bool.or_false]⟩, ?_⟩
            simp only [intOf]; omega
        · have hie : i = zs.length := by simp at h2; omega
          subst hie
          rw [List.take_length]
          simp only [zW, zX, zD, builtinA, isLeaf, const1, ustrA, simprocAttr, ti3, ti4, ti5, ti9, ti22, ti23, ti33, ti42, ca16, ca19, ca20, ca21, ca22, cf, Tryz.results5]
theorem findVal_rec : ∀ t ∈ Tryz.f5.params.toList, Tryz.prog.readableRec t = true ∧ t < Tryz.prog.types.size := by
  rw [Tryz.params5]
  intro t ht
  simp at ht
  subst ht
  exact ⟨by kernel_rfl, of_decide_eq_true (by kernel_rfl)⟩
set_option maxRecDepth 100000 in
theorem findVal_lifted (os : Os) (started : os.Started) (H : Type) (enc' : TypeId × Value → H) :
    ReturnsInHanded {} Tryz.checked os 5 .any (Rows.fnFindValSpec.pre6 enc' Tryz.prog Tryz.f5 Rows.fnFindValRow.domain false) (Rows.fnFindValSpec.post enc' Tryz.prog Tryz.f5 false true false false) := by
  refine returnsInHanded_of_change (C := Tryz.checked) ownk started (by kernel_rfl) Tryz.func5
    (ChangeSpec.witness6 (enc := enc') (C := Tryz.checked) false ⟨#[], #[.slice none 0 0], []⟩ 8 (by kernel_rfl) (by kernel_rfl) (by kernel_rfl) (by kernel_rfl)) ?_
  intro W base args ds gs before hval0 hW hcnd _
  have hval : ∀ (j : Nat) t v, Tryz.f5.params[j]? = some t → args[j]? = some v → Value.okWide Tryz.prog W .any base t v := hval0
  have hW' := hW
  obtain ⟨p, q, hA0, hV, rfl, hfz, hnd⟩ := hW
  have hA : DataW.TrodAll enc' Tryz.prog W 0 (fun _ => true) true Tryz.f5.params.toList args.toList ds p := hA0
  rw [Tryz.params5] at hA hval
  have hlt := hA.lt
  obtain ⟨v0, d0, rfl, rfl, h0⟩ := trodAll_one hA
  obtain ⟨rfl, rfl⟩ := trodVars_none hV
  obtain ⟨x0, r0⟩ := rv_bytes Tryz.underlying22 Tryz.underlying5 (by kernel_rfl) (hval 0 22 v0 rfl rfl) h0 (fun x hx => hlt x (by simp [hx]))
  refine (law_calls (findVal_true x0) (.cons r0 .nil)).mono fun e W' ⟨he, hb⟩ => ?_
  subst he
  exact ⟨_, rfl, law_post laid findVal_rec rfl Tryz.underlying4 (by kernel_rfl) ⟨rfl, rfl⟩ rfl hW' hb⟩
theorem findVal_holds : Rows.FnFindValSaid :=
  OpenClaim.holds_of_wide 5 Tryz.f5 rfl rfl rfl rfl rfl rfl rfl ⟨rfl, rfl, rfl, rfl, rfl⟩ rfl rfl rfl rfl rfl (by kernel_rfl) Tryz.func5 (by kernel_rfl)
    (of_decide_eq_true (by kernel_rfl)) (by unfold Func.isWrapper; first | (rw [if_pos (by decide +kernel)]; kernel_rfl) | (rw [if_neg (by decide +kernel)]; exact ⟨rfl, rfl⟩))
    (fun os started H enc' _ => findVal_lifted os started H enc')
end Go.Proofs.YtmgppdedcciogaaGreat
