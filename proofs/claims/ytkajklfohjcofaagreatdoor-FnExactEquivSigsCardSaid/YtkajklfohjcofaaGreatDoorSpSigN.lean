/- The model's NormalSig. -/
import Derived.Test.YtkajklfohjcofaaGreatDoorNormP
import Derived.Test.YtkajklfohjcofaaGreatDoorAbsW3
set_option linter.unusedVariables false
set_option linter.unusedSimpArgs false
namespace Go.Proofs.YtkajklfohjcofaaGreatDoor
open Go.Abs

theorem itemOk_of {x : SigI} (h : itemOk x = true) : localB x.name = true ∧ ∃ y, ItemOf x y := by
  rw [itemOk, Bool.and_eq_true] at h
  refine ⟨h.1, ?_⟩
  have h2 := h.2
  by_cases k1 : x.kind = 1
  · rw [if_pos k1] at h2
    exact ⟨.ab x.name, rfl, k1, of_decide_eq_true h2⟩
  · rw [if_neg k1] at h2
    by_cases k2 : x.kind = 2 ∨ x.kind = 3
    · rw [if_pos k2] at h2
      rcases valid_cases x.typ with ⟨v, hv, hv2⟩ | hv
      · rcases k2 with k2 | k2
        · exact ⟨.al x.name v, rfl, k2, hv, hv2⟩
        · exact ⟨.va x.name v, rfl, k2, hv, hv2⟩
      · rw [hv] at h2; cases h2
    · rw [if_neg k2] at h2; cases h2
open Classical in
theorem reads_or (s : List SigI) : (∃ x ∈ s, itemOk x = false) ∨ ∃ ys, ReadsTo s ys := by
  by_cases h : ∃ x ∈ s, itemOk x = false
  · exact .inl h
  · have h' : ∀ x ∈ s, itemOk x = true := fun x hx => by
      cases hc : itemOk x with
      | true => rfl
      | false => exact absurd ⟨x, hx, hc⟩ h
    refine .inr ⟨s.map fun x => if hx : ∃ y, ItemOf x y then hx.choose else vi0, by simp, fun i hi => ?_⟩
    have hm := si_mem hi
    obtain ⟨h1, h2⟩ := itemOk_of (h' _ hm)
    refine ⟨h1, ?_⟩
    have e : (s.map fun x => if hx : ∃ y, ItemOf x y then hx.choose else vi0).getD i vi0 = if hx : ∃ y, ItemOf (s.getD i si0) y then hx.choose else vi0 := by
      simp [List.getD, hi]
    rw [e, dif_pos h2]
    exact h2.choose_spec
theorem rdN_bad {s : List SigI} (h : sigB s = false) : RdN s none := by
  by_cases h8 : 8 < s.length
  · exact .inl (.inl h8)
  · rcases reads_or s with hb | ⟨ys, hr⟩
    · exact .inl (.inr hb)
    · exact .inr ⟨ys, by omega, hr, .inl (by rw [← sigB_reads (by omega) hr]; exact h)⟩
theorem sigB_yes {s : List SigI} (h : sigB s = true) : ∃ ys, s.length ≤ 8 ∧ ReadsTo s ys ∧ ordB ys = true := by
  have h8 : s.length ≤ 8 := by
    rcases Nat.lt_or_ge 8 s.length with h1 | h1
    · rw [sigB_bad (.inl h1)] at h; cases h
    · exact h1
  rcases reads_or s with hb | ⟨ys, hr⟩
  · rw [sigB_bad (.inr hb)] at h; cases h
  · exact ⟨ys, h8, hr, by rw [← sigB_reads h8 hr]; exact h⟩

/-- what a valid signature hands back -/
def sgR (s : List SigI) : AV := .tuple [.slice (sEs s), .bool true]
def sgN : AV := .tuple [.slice [], .bool false]
set_option maxRecDepth 100000 in
theorem spec_l2Made (s : List SigI) (hs : s.length ≤ 1048576) (ho : ∀ x ∈ s, x.Ok ∧ sz x.typ ≤ 1048576) (A : List Box) : ACalls Tryz.prog 120 [.slice (sEs s)] A (fun r A' => r = (if sigB s = true then sgR s else sgN) ∧ A' = A) := by
  refine acalls_enter (cf := cf 9 [0, 2, 3, 6]) foll Tryz.func120 Tryz.ntmps120 (by simp [cf]) ?_
  simp only [Tryz.f120, EnterK_some, zW, zX, zD, builtinA, isLeaf, const1, ustrA, simprocAttr, ti25, ti49, ca52, cf, Tryz.results120]
  refine callK_intro (by simp only [zW, zX, zD, builtinA, isLeaf, const1, ustrA, simprocAttr, Option.map_some]; rfl) (spec_SigValid s hs ho _) ?_ rfl; rintro v A' ⟨rfl, rfl⟩
  cases hb : sigB s with
  | true =>
    simp only [zW, zX, zD, builtinA, isLeaf, const1, ustrA, simprocAttr, ti25, ti49, ca52, cf, Tryz.results120]
    rfl
  | false =>
    simp only [zW, zX, zD, builtinA, isLeaf, const1, ustrA, simprocAttr, ti25, ti49, ca52, cf, Tryz.results120]
    rfl

def nrR : Option (List VI) → AV
  | some zs => sgR (zs.map siOf)
  | none => sgN
theorem sEs_app (a b : List SigI) : sEs (a ++ b) = sEs a ++ sEs b := by simp [sEs]
theorem mix_getD {Z : List SigI} {s : List SigI} {i : Nat} (hz : Z.length = i) (hi : i < s.length) : (sEs (Z ++ s.drop i)).getD i [] = sE (s.getD i si0) := by
  rw [sEs_app, Abs.getD_append_right (by rw [sEs_length]; omega), sEs_length, hz, Nat.sub_self]
  simp [sEs, List.getD, hi]
theorem mix_drop {s : List SigI} {i : Nat} (hi : i < s.length) : s.drop i = s.getD i si0 :: s.drop (i + 1) := by
  have : s.getD i si0 = s[i] := by simp [List.getD, hi]
  rw [this, List.getElem_cons_drop hi]
theorem mix_set {Z : List SigI} {s : List SigI} {i : Nat} (x : SigI) (hz : Z.length = i) (hi : i < s.length) : (sEs (Z ++ s.drop i)).set i (sE x) = sEs ((Z ++ [x]) ++ s.drop (i + 1)) := by
  rw [mix_drop hi, sEs_app, List.set_append_right _ _ (by rw [sEs_length]; omega), sEs_length, hz, Nat.sub_self]
  simp [sEs]
theorem okI_ty {w : VT} (h : VOk w) (k : Int) {n : List UInt8} (hn : n.length < 2 ^ 63) : (⟨k, n, toTy w⟩ : SigI).Ok ∧ sz (toTy w) ≤ 1048576 := by
  have := sz_toTyS _ h.ok
  have := h.cnt
  exact ⟨⟨hn, ok_toTyS _ h.ok⟩, by omega⟩
theorem siOf_ok {y : VI} (h : VOk (meanI y)) (hn : (viK y).2.length < 2 ^ 63) : (siOf y).Ok ∧ sz (siOf y).typ ≤ 1048576 := by
  cases y with
  | ab n => exact ⟨⟨hn, by show ty0.Ok; rw [ty0]; exact .mk (by simp) (by simp) (by simp) (by simp)⟩, by simp [siOf, ty0, sz, szs]⟩
  | al n v => exact okI_ty h 2 hn
  | va n v => exact okI_ty h 3 hn

theorem take_getD' {ys : List VI} {i k : Nat} (h : k < i) (hi : i ≤ ys.length) : (ys.take i).getD k vi0 = ys.getD k vi0 := by
  simp [List.getD, h]
theorem take_take' {ys : List VI} {i k : Nat} (h : k ≤ i) : (ys.take i).take k = ys.take k := by
  rw [List.take_take, Nat.min_eq_left h]
theorem nxtL_pre {ys : List VI} (hy : ∀ i, i < ys.length → VOk (meanI (ys.getD i vi0))) {i : Nat} (hf : ∀ k, k < i → fitI (subI (nxtL (ys.take k)) (ys.getD k vi0)) = true) (hi : i ≤ ys.length) : ∀ x ∈ nxtL (ys.take i), VOk x.2 := by
  have h := nxtL_ok (ys.take i) (fun k hk => ?_) (fun k hk => ?_) i (by simp; omega)
  · rwa [take_take' (Nat.le_refl _)] at h
  · have hk' : k < i := by simp at hk; omega
    rw [take_getD' hk' hi]; exact hy k (by omega)
  · have hk' : k < i := by simp at hk; omega
    rw [take_getD' hk' hi, take_take' (by omega)]; exact hf k hk'
theorem fitL_take {ys : List VI} {s : List SigI} (hl : ys.length = s.length) {i : Nat} (hi : i ≤ s.length) (hf : ∀ k, k < i → fitI (subI (nxtL (ys.take k)) (ys.getD k vi0)) = true) : fitL (ys.take i) := by
  intro k hk
  have hk' : k < i := by simp at hk; omega
  rw [take_getD' hk' (by omega), take_take' (by omega)]; exact hf k hk'
theorem readsTo_take {ys : List VI} {s : List SigI} (h : ReadsTo s ys) {i : Nat} (hi : i ≤ s.length) : ReadsTo (s.take i) (ys.take i) := by
  refine ⟨by simp [h.1], fun k hk => ?_⟩
  have hk' : k < i := by simp at hk; omega
  have hk2 : k < s.length := by omega
  have := h.2 k hk2
  rw [take_getD' hk' (by have := h.1; omega)]
  have e : (s.take i).getD k si0 = s.getD k si0 := by simp [List.getD, hk']
  rw [e]; exact this
set_option maxRecDepth 100000 in
set_option maxHeartbeats 4000000 in
theorem spec_NormalSig (s : List SigI) (hs : s.length ≤ 1048576) (ho : ∀ x ∈ s, x.Ok ∧ sz x.typ ≤ 1048576) (A : List Box) : ACalls Tryz.prog 86 [.slice (sEs s)] A (fun r A' => ∃ o, RdN s o ∧ r = nrR o ∧ A' = A) := by
  refine acalls_enter (cf := cf 50 [0, 2, 3, 4, 5, 8, 15, 23, 44]) foll Tryz.func86 Tryz.ntmps86 (by simp [cf]) ?_
  simp only [Tryz.f86, EnterK_some, zW, zX, zD, builtinA, isLeaf, const1, ustrA, simprocAttr, ti3, ti25, ti45, ti49, ca52, ca53, ca117, ca118, ca119, ca120, cf, Tryz.results86]
  refine callO_intro (spec_SigValid s hs ho _) ?_
  rintro r A' ⟨rfl, hA⟩
  have hA := hA.symm
  subst hA
  cases hb : sigB s with
  | false =>
    simp only [zW, zX, zD, builtinA, isLeaf, const1, ustrA, simprocAttr, ti3, ti25, ti45, ti49, ca52, ca53, ca117, ca118, ca119, ca120, cf, Tryz.results86]
    exact ⟨none, rdN_bad hb, rfl⟩
  | true =>
    obtain ⟨ys, h8, hr, hord⟩ := sigB_yes hb
    have hys := hr.1
    have hy : ∀ i, i < ys.length → VOk (meanI (ys.getD i vi0)) := fun k hk => by
      have := hr.2 k (by omega)
      exact mean_ok this.1 this.2
    have hnm : ∀ i, i < ys.length → (viK (ys.getD i vi0)).2.length < 2 ^ 63 := fun k hk => by
      have h1 := hr.2 k (by omega)
      rw [← siOf_name, ← itemOf_si h1.2]
      exact (ho _ (si_mem (by omega))).1.1
    have hsi : ∀ i, i < ys.length → s.getD i si0 = siOf (ys.getD i vi0) := fun k hk => itemOf_si (hr.2 k (by omega)).2
    simp only [zW, zX, zD, builtinA, isLeaf, const1, ustrA, simprocAttr, ti3, ti25, ti45, ti49, ca52, ca53, ca117, ca118, ca119, ca120, cf, Tryz.results86]
    refine callO_intro (spec_l2Copy s hs (fun x hx => (ho x hx).2) _) ?_
    rintro r A' ⟨B, j, rfl, rfl, hj, hg⟩
    simp only [zW, zX, zD, builtinA, isLeaf, const1, ustrA, simprocAttr, ti3, ti25, ti45, ti49, ca52, ca53, ca117, ca118, ca119, ca120, cf, Tryz.results86]
    refine aloop_intro [0, 4, 5] (fun e A' => ∃ i B, i ≤ s.length ∧ e = [(0, .slice (sEs s)), (4, .own (A.length + j)), (5, .int .i64 i)] ∧ A' = A ++ B ∧ j < B.length ∧ B.getD j .dead = .row 6 (sEs ((zsN ys i).map siOf ++ s.drop i)) 0 ∧ ∀ k, k < i → fitI (subI (nxtL (ys.take k)) (ys.getD k vi0)) = true) (fun e _ => s.length - (intOf (Abs.look 5 e)).toNat) ?_ ?_
    · simp only [zW, zX, zD, builtinA, isLeaf, const1, ustrA, simprocAttr, ti3, ti25, ti45, ti49, ca52, ca53, ca117, ca118, ca119, ca120, cf, Tryz.results86]
      exact ⟨0, B, by omega, rfl, rfl, hj, by rw [hg]; simp [zsN], fun k hk => by omega⟩
    · rintro e A' ⟨i, B, hi, rfl, rfl, hj, hg, hfit⟩
      have hzl : ((zsN ys i).map siOf).length = i := by simp [zsN_length]
      have hrl : (sEs ((zsN ys i).map siOf ++ s.drop i)).length = s.length := by rw [sEs_length]; simp [zsN_length]; omega
      simp only [zW, zX, zD, builtinA, isLeaf, const1, ustrA, simprocAttr, ti3, ti25, ti45, ti49, ca52, ca53, ca117, ca118, ca119, ca120, cf, Tryz.results86, hg, hj, hrl]
      refine condK_intro (fun h2 => ?_) (fun h2 => ?_)
      · have hi2 : i < s.length := by simpa using h2
        have hi1 : IntKind.i64.wrap ((i : Int) + 1) = ((i + 1 : Nat) : Int) := by rw [wrap64 (by omega) (by omega)]; rfl
        have pi : (0 : Int) ≤ (i : Int) ∧ (i : Int) < (s.length : Int) := ⟨by omega, by omega⟩
        have he := sEs_getD hi2
        have hm := mix_getD hzl hi2
        have hset := fun x => mix_set x hzl hi2
        have hzs := zsN_succ ys i
        have hdr := mix_drop hi2
        have hit := (hr.2 i hi2).2
        have hyi := hy i (by omega)
        have hok := nxtL_pre hy hfit (Nat.le_of_lt (hys ▸ hi2))
        have hno := @normL_no ys i (by omega) hfit
        have hln := nxtL_len ys i (by omega)
        have hrd := readsTo_take hr hi
        have hB := fun A => spec_l2Binds (s.take i) (ys.take i) (by simp; omega) hrd (fitL_take hys hi hfit) A
        rw [← take_sEs] at hB
        have hfi : fitI (subI (nxtL (ys.take i)) (ys.getD i vi0)) = true → ∀ k, k < i + 1 → fitI (subI (nxtL (ys.take k)) (ys.getD k vi0)) = true := fun h k hk => by
          rcases Nat.lt_succ_iff_lt_or_eq.mp hk with h1 | rfl
          · exact hfit k h1
          · exact h
        have hnone : fitI (subI (nxtL (ys.take i)) (ys.getD i vi0)) = false → RdN s none := fun h => .inr ⟨ys, h8, hr, .inr (hno h)⟩
        have hrl' : (sEs ((zsN ys (i + 1)).map siOf ++ s.drop (i + 1))).length = s.length := by rw [sEs_length]; simp [zsN_length]; omega
        generalize nxtL (ys.take i) = m at *
        generalize s.getD i si0 = x at *
        obtain ⟨k, n, t⟩ := x
        simp only [sE] at he hm
        generalize ys.getD i vi0 = y at *
        cases y with
        | ab n' =>
          obtain ⟨rfl, rfl, rfl⟩ := hit
          simp only [zW, zX, zD, builtinA, isLeaf, const1, ustrA, simprocAttr, ti3, ti25, ti45, ti49, ca52, ca53, ca117, ca118, ca119, ca120, cf, Tryz.results86, hm, hg, hj, hrl, enc_length]
          refine ⟨pi, ?_⟩
          simp only [zW, zX, zD, builtinA, isLeaf, const1, ustrA, simprocAttr, ti3, ti25, ti45, ti49, ca52, ca53, ca117, ca118, ca119, ca120, cf, Tryz.results86, hi1, LoopK_eq]
          refine ⟨⟨i + 1, B, by omega, rfl, rfl, hj, ?_, hfi (by simp [subI, fitI, meanI, dep, cnt])⟩, ?_⟩
          · rw [hg, hzs, hdr]; simp [siOf, subI]
          · simp only [intOf]; omega
        | al n' v =>
          obtain ⟨rfl, rfl, rfl, hv⟩ := hit
          have hz : sz (toTy v) ≤ 1048576 := by have := sz_toTyS _ hv.ok; have := hv.cnt; omega
          have hS := fun A => spec_l1Subst (m.map ofB) (by simp; omega) (ofB_sz hok) (toTy v) hz A
          rw [subT_eq, subV_foldB] at hS
          have hsub := sub_ok m hok v hv.ok
          have hcv := hv.cnt
          simp only [subI] at hzs hfi hnone
          generalize subV m v = w at *
          have hszw := sz_toTyS w hsub.1
          have hV := fun A => spec_TypeValid (toTy w) (ok_toTyS w hsub.1) (by omega) A
          have hval : validB (toTy w) = fitI (.al n w) := by rw [validB_sub hsub.1]; rfl
          rw [hval] at hV
          have hst := hset ⟨2, n, toTy w⟩
          simp only [sE] at hst
          simp only [zW, zX, zD, builtinA, isLeaf, const1, ustrA, simprocAttr, ti3, ti25, ti45, ti49, ca52, ca53, ca117, ca118, ca119, ca120, cf, Tryz.results86, hm, hg, hj, hrl, enc_length]
          refine ⟨pi, ?_⟩
          refine .inr (drawE_intro [(false, 0, 2), (false, 0, 2), (false, 0, 1), (false, 0, 1), (false, 0, 1), (false, 0, 1), (false, 0, 1), (false, 0, 0), (false, 0, 0), (false, 0, 0), (true, 0, 0), (true, 1, 1), (false, 2, 2), (false, 2, 2), (true, 2, 2)] [A ++ B, A ++ B, A ++ B, A ++ B.set j (.row 6 (sEs ((zsN ys (i + 1)).map siOf ++ s.drop (i + 1))) 0)] 3 rfl (by kernel_rfl) (by kernel_rfl) (by kernel_rfl) (by kernel_rfl) (by kernel_rfl) (by kernel_rfl) ?_)
          simp only [zW, zX, zD, builtinA, isLeaf, const1, ustrA, simprocAttr, ti3, ti25, ti45, ti49, ca52, ca53, ca117, ca118, ca119, ca120, cf, Tryz.results86, he, hm, hg, hj, hrl, sEs_length, enc_length, enc_take, sub_drop, frzL_enc, sub_closed, Option.map_some]
          refine ⟨pi, pi, ⟨rows_sEs s, by omega, by omega⟩, ?_⟩
          refine callE_intro (by simp only [zW, zX, zD, builtinA, isLeaf, const1, ustrA, simprocAttr, Option.map_some] <;> rfl) (hB _) ?_ rfl rfl
          simp only [zW, zX, zD, builtinA, isLeaf, const1, ustrA, simprocAttr, ti3, ti25, ti45, ti49, ca52, ca53, ca117, ca118, ca119, ca120, cf, Tryz.results86, he, hm, hg, hj, hrl, sEs_length, enc_length, enc_take, sub_drop, frzL_enc, sub_closed, Option.map_some]
          refine callE_intro (by simp only [zW, zX, zD, builtinA, isLeaf, const1, ustrA, simprocAttr, enc_length, enc_take, sub_drop, frzL_enc, sub_closed, Option.map_some] <;> rfl) (hS _) ?_ rfl rfl
          simp only [zW, zX, zD, builtinA, isLeaf, const1, ustrA, simprocAttr, ti3, ti25, ti45, ti49, ca52, ca53, ca117, ca118, ca119, ca120, cf, Tryz.results86, he, hm, hg, hj, hrl, hst, sEs_length, enc_length, enc_take, sub_drop, frzL_enc, sub_closed, Option.map_some]
          have hbx : sEs ((zsN ys i).map siOf ++ ⟨2, n, toTy w⟩ :: s.drop (i + 1)) = sEs ((zsN ys (i + 1)).map siOf ++ s.drop (i + 1)) := by rw [hzs]; simp [siOf]
          have hm2 : (sEs ((zsN ys (i + 1)).map siOf ++ s.drop (i + 1))).getD i [] = .int .i64 2 :: .str n :: enc (toTy w) := by
            rw [← hbx, sEs_app, Abs.getD_append_right (by rw [sEs_length]; omega), sEs_length, hzl, Nat.sub_self]
            rfl
          refine ⟨pi, ⟨by omega, by omega, fun v hv => enc_leaf _ v hv⟩, by rw [hbx], ?_⟩
          have hgj : ∀ X : Box, (B.set j X).getD j .dead = X := fun X => getD_set_self hj
          simp only [zW, zX, zD, builtinA, isLeaf, const1, ustrA, simprocAttr, ti3, ti25, ti45, ti49, ca52, ca53, ca117, ca118, ca119, ca120, cf, Tryz.results86, hgj, hj, hrl', hm2, enc_length, enc_take, sub_drop, frzL_enc, sub_closed, Option.map_some]
          refine ⟨⟨by omega, by rw [sEs_length, List.length_append] at hrl'; omega⟩, ?_⟩
          refine callK_intro (by simp only [zW, zX, zD, builtinA, isLeaf, const1, ustrA, simprocAttr, enc_length, enc_take, sub_drop, frzL_enc, sub_closed, Option.map_some]; rfl) (hV _) ?_ rfl; rintro v A' ⟨rfl, rfl⟩
          cases hf : fitI (.al n w) with
          | false =>
            simp only [zW, zX, zD, builtinA, isLeaf, const1, ustrA, simprocAttr, ti3, ti25, ti45, ti49, ca52, ca53, ca117, ca118, ca119, ca120, cf, Tryz.results86]
            exact ⟨none, hnone hf, rfl⟩
          | true =>
            simp only [zW, zX, zD, builtinA, isLeaf, const1, ustrA, simprocAttr, ti3, ti25, ti45, ti49, ca52, ca53, ca117, ca118, ca119, ca120, cf, Tryz.results86, hi1, LoopK_eq]
            refine ⟨⟨i + 1, B.set j _, by omega, rfl, rfl, by simpa using hj, hgj _, hfi hf⟩, ?_⟩
            simp only [intOf]; omega
        | va n' v =>
          obtain ⟨rfl, rfl, rfl, hv⟩ := hit
          have hz : sz (toTy v) ≤ 1048576 := by have := sz_toTyS _ hv.ok; have := hv.cnt; omega
          have hS := fun A => spec_l1Subst (m.map ofB) (by simp; omega) (ofB_sz hok) (toTy v) hz A
          rw [subT_eq, subV_foldB] at hS
          have hsub := sub_ok m hok v hv.ok
          have hcv := hv.cnt
          simp only [subI] at hzs hfi hnone
          generalize subV m v = w at *
          have hszw := sz_toTyS w hsub.1
          have hV := fun A => spec_TypeValid (toTy w) (ok_toTyS w hsub.1) (by omega) A
          have hval : validB (toTy w) = fitI (.va n w) := by rw [validB_sub hsub.1]; rfl
          rw [hval] at hV
          have hst := hset ⟨3, n, toTy w⟩
          simp only [sE] at hst
          simp only [zW, zX, zD, builtinA, isLeaf, const1, ustrA, simprocAttr, ti3, ti25, ti45, ti49, ca52, ca53, ca117, ca118, ca119, ca120, cf, Tryz.results86, hm, hg, hj, hrl, enc_length]
          refine ⟨pi, ?_⟩
          refine .inr (drawE_intro [(false, 0, 2), (false, 0, 2), (false, 0, 1), (false, 0, 1), (false, 0, 1), (false, 0, 1), (false, 0, 1), (false, 0, 0), (false, 0, 0), (false, 0, 0), (true, 0, 0), (true, 1, 1), (false, 2, 2), (false, 2, 2), (true, 2, 2)] [A ++ B, A ++ B, A ++ B, A ++ B.set j (.row 6 (sEs ((zsN ys (i + 1)).map siOf ++ s.drop (i + 1))) 0)] 3 rfl (by kernel_rfl) (by kernel_rfl) (by kernel_rfl) (by kernel_rfl) (by kernel_rfl) (by kernel_rfl) ?_)
          simp only [zW, zX, zD, builtinA, isLeaf, const1, ustrA, simprocAttr, ti3, ti25, ti45, ti49, ca52, ca53, ca117, ca118, ca119, ca120, cf, Tryz.results86, he, hm, hg, hj, hrl, sEs_length, enc_length, enc_take, sub_drop, frzL_enc, sub_closed, Option.map_some]
          refine ⟨pi, pi, ⟨rows_sEs s, by omega, by omega⟩, ?_⟩
          refine callE_intro (by simp only [zW, zX, zD, builtinA, isLeaf, const1, ustrA, simprocAttr, Option.map_some] <;> rfl) (hB _) ?_ rfl rfl
          simp only [zW, zX, zD, builtinA, isLeaf, const1, ustrA, simprocAttr, ti3, ti25, ti45, ti49, ca52, ca53, ca117, ca118, ca119, ca120, cf, Tryz.results86, he, hm, hg, hj, hrl, sEs_length, enc_length, enc_take, sub_drop, frzL_enc, sub_closed, Option.map_some]
          refine callE_intro (by simp only [zW, zX, zD, builtinA, isLeaf, const1, ustrA, simprocAttr, enc_length, enc_take, sub_drop, frzL_enc, sub_closed, Option.map_some] <;> rfl) (hS _) ?_ rfl rfl
          simp only [zW, zX, zD, builtinA, isLeaf, const1, ustrA, simprocAttr, ti3, ti25, ti45, ti49, ca52, ca53, ca117, ca118, ca119, ca120, cf, Tryz.results86, he, hm, hg, hj, hrl, hst, sEs_length, enc_length, enc_take, sub_drop, frzL_enc, sub_closed, Option.map_some]
          have hbx : sEs ((zsN ys i).map siOf ++ ⟨3, n, toTy w⟩ :: s.drop (i + 1)) = sEs ((zsN ys (i + 1)).map siOf ++ s.drop (i + 1)) := by rw [hzs]; simp [siOf]
          have hm2 : (sEs ((zsN ys (i + 1)).map siOf ++ s.drop (i + 1))).getD i [] = .int .i64 3 :: .str n :: enc (toTy w) := by
            rw [← hbx, sEs_app, Abs.getD_append_right (by rw [sEs_length]; omega), sEs_length, hzl, Nat.sub_self]
            rfl
          refine ⟨pi, ⟨by omega, by omega, fun v hv => enc_leaf _ v hv⟩, by rw [hbx], ?_⟩
          have hgj : ∀ X : Box, (B.set j X).getD j .dead = X := fun X => getD_set_self hj
          simp only [zW, zX, zD, builtinA, isLeaf, const1, ustrA, simprocAttr, ti3, ti25, ti45, ti49, ca52, ca53, ca117, ca118, ca119, ca120, cf, Tryz.results86, hgj, hj, hrl', hm2, enc_length, enc_take, sub_drop, frzL_enc, sub_closed, Option.map_some]
          refine ⟨⟨by omega, by rw [sEs_length, List.length_append] at hrl'; omega⟩, ?_⟩
          refine callK_intro (by simp only [zW, zX, zD, builtinA, isLeaf, const1, ustrA, simprocAttr, enc_length, enc_take, sub_drop, frzL_enc, sub_closed, Option.map_some]; rfl) (hV _) ?_ rfl; rintro v A' ⟨rfl, rfl⟩
          cases hf : fitI (.va n w) with
          | false =>
            simp only [zW, zX, zD, builtinA, isLeaf, const1, ustrA, simprocAttr, ti3, ti25, ti45, ti49, ca52, ca53, ca117, ca118, ca119, ca120, cf, Tryz.results86]
            exact ⟨none, hnone hf, rfl⟩
          | true =>
            simp only [zW, zX, zD, builtinA, isLeaf, const1, ustrA, simprocAttr, ti3, ti25, ti45, ti49, ca52, ca53, ca117, ca118, ca119, ca120, cf, Tryz.results86, hi1, LoopK_eq]
            refine ⟨⟨i + 1, B.set j _, by omega, rfl, rfl, by simpa using hj, hgj _, hfi hf⟩, ?_⟩
            simp only [intOf]; omega
      · have hi2 : i = s.length := by simp at h2; omega
        subst hi2
        have hfl : fitL ys := fun k hk => hfit k (by omega)
        have hzr := zsN_reads hr hfl
        have hzo := ordB_norm hord
        have hsg : sigB ((zsN ys ys.length).map siOf) = true := by rw [sigB_reads (by simp [zsN_length]; omega) hzr]; exact hzo
        have hzk : ∀ x ∈ (zsN ys ys.length).map siOf, x.Ok ∧ sz x.typ ≤ 1048576 := fun x hx => by
          obtain ⟨y, hy1, rfl⟩ := List.mem_map.1 hx
          obtain ⟨k, hk, rfl⟩ := List.mem_iff_getElem.1 hy1
          rw [zsN_length] at hk
          have e : (zsN ys ys.length)[k] = subI (nxtL (ys.take k)) (ys.getD k vi0) := by
            rw [← zsN_getD ys hk]; simp [List.getD, zsN_length, hk]
          rw [e]
          exact siOf_ok (zsN_ok hy hfl hk) (by rw [viK_sub]; exact hnm k hk)
        have hM := fun A => spec_l2Made ((zsN ys ys.length).map siOf) (by simp [zsN_length]; omega) hzk A
        rw [List.drop_length, List.append_nil, ← hys] at hg
        have h1 : (A ++ B).getD (A.length + j) .dead = .row 6 (sEs ((zsN ys ys.length).map siOf)) 0 := by
          rw [Abs.getD_append_right (by omega), show A.length + j - A.length = j by omega]; exact hg
        have hfz : frzs [.own (A.length + j)] (A ++ B) = some ([.slice (sEs ((zsN ys ys.length).map siOf))], A ++ B.set j (.row 6 (sEs ((zsN ys ys.length).map siOf)) (sEs ((zsN ys ys.length).map siOf)).length)) := by
          have h2 : (A ++ B).set (A.length + j) (.row 6 (sEs ((zsN ys ys.length).map siOf)) (sEs ((zsN ys ys.length).map siOf)).length) = A ++ B.set j (.row 6 (sEs ((zsN ys ys.length).map siOf)) (sEs ((zsN ys ys.length).map siOf)).length) := by simp [List.set_append]
          simp only [frzs, frzC, frz1, h1, h2]
        simp only [zW, zX, zD, builtinA, isLeaf, const1, ustrA, simprocAttr, ti3, ti25, ti45, ti49, ca52, ca53, ca117, ca118, ca119, ca120, cf, Tryz.results86]
        refine callK_intro hfz (hM _) ?_ rfl
        rintro r A' ⟨rfl, rfl⟩
        rw [if_pos hsg]
        simp only [sgR]
        simp only [zW, zX, zD, builtinA, isLeaf, const1, ustrA, simprocAttr, ti3, ti25, ti45, ti49, ca52, ca53, ca117, ca118, ca119, ca120, cf, Tryz.results86]
        exact ⟨some (zsN ys ys.length), ⟨ys, h8, hr, hord, normL_yes hfl⟩, rfl⟩
end Go.Proofs.YtkajklfohjcofaaGreatDoor
