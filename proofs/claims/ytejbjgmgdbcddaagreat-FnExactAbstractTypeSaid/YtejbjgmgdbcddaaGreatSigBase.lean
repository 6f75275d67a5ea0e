/- Signatures: what both sides' texts share. -/
import Derived.Test.YtejbjgmgdbcddaaGreatSpCopyT
import Derived.Test.YtejbjgmgdbcddaaGreatSigPure
import Derived.Test.YtejbjgmgdbcddaaGreatAbsW3
set_option linter.unusedVariables false
set_option linter.unusedSimpArgs false
namespace Go.Proofs.YtejbjgmgdbcddaaGreat
open Go.Abs

/-- what an item's type stands for -/
def meanI : VI → VT
  | .ab n => .nm [] n
  | .al _ v => v
  | .va _ v => v
def siOf : VI → SigI
  | .ab n => ⟨1, n, ty0⟩
  | .al n v => ⟨2, n, toTy v⟩
  | .va n v => ⟨3, n, toTy v⟩
theorem itemOf_si {x : SigI} {y : VI} (h : ItemOf x y) : x = siOf y := by
  obtain ⟨k, n, t⟩ := x
  cases y <;> simp only [ItemOf] at h
  · obtain ⟨rfl, rfl, rfl⟩ := h; rfl
  · obtain ⟨rfl, rfl, rfl, _⟩ := h; rfl
  · obtain ⟨rfl, rfl, rfl, _⟩ := h; rfl
theorem itemOf_of {y : VI} (h : VOk (meanI y)) : ItemOf (siOf y) y := by
  cases y with
  | ab n => exact ⟨rfl, rfl, rfl⟩
  | al n v => exact ⟨rfl, rfl, rfl, h⟩
  | va n v => exact ⟨rfl, rfl, rfl, h⟩
theorem readsTo_si {s : List SigI} {ys : List VI} (h : ReadsTo s ys) : s = ys.map siOf := by
  refine List.ext_getElem (by simp [h.1]) fun i h1 h2 => ?_
  have := itemOf_si (h.2 i h1).2
  have hy : i < ys.length := by have := h.1; omega
  simpa [List.getD, h1, hy] using this
theorem siOf_name (y : VI) : (siOf y).name = (viK y).2 := by cases y <;> rfl
theorem sEs_app (a b : List SigI) : sEs (a ++ b) = sEs a ++ sEs b := by simp [sEs]
theorem mix_getD {Z : List SigI} {s : List SigI} {i : Nat} (hz : Z.length = i) (hi : i < s.length) : (sEs (Z ++ s.drop i)).getD i [] = sE (s.getD i si0) := by
  rw [sEs_app, Abs.getD_append_right (by rw [sEs_length]; omega), sEs_length, hz, Nat.sub_self]
  simp [sEs, List.getD, hi]
theorem mix_drop {s : List SigI} {i : Nat} (hi : i < s.length) : s.drop i = s.getD i si0 :: s.drop (i + 1) := by
  have : s.getD i si0 = s[i] := by simp [List.getD, hi]
  rw [this, List.getElem_cons_drop hi]
theorem mix_set {Z : List SigI} {s : List SigI} {i : Nat} (x : SigI) (hz : Z.length = i) (hi : i < s.length) : (sEs (Z ++ s.drop i)).set i (sE x) = sEs ((Z ++ [x]) ++ s.drop (i + 1)) := by
  rw [mix_drop hi, sEs_app, List.set_append_right _ _ (by rw [sEs_length]; omega), sEs_length, hz, Nat.sub_self]
  simp [sEs]
theorem okI_ty {w : VT} (h : VOk w) (k : Int) {n : List UInt8} (hn : n.length < 2 ^ 63) : (⟨k, n, toTy w⟩ : SigI).Ok ∧ sz (toTy w) ≤ 1048576 := by
  have := sz_toTyS _ h.ok
  have := h.cnt
  exact ⟨⟨hn, ok_toTyS _ h.ok⟩, by omega⟩
theorem siOf_ok {y : VI} (h : VOk (meanI y)) (hn : (viK y).2.length < 2 ^ 63) : (siOf y).Ok ∧ sz (siOf y).typ ≤ 1048576 := by
  cases y with
  | ab n => exact ⟨⟨hn, by show ty0.Ok; rw [ty0]; exact .mk (by simp) (by simp) (by simp) (by simp)⟩, by simp [siOf, ty0, sz, szs]⟩
  | al n v => exact okI_ty h 2 hn
  | va n v => exact okI_ty h 3 hn
theorem sEs_set (s : List SigI) (k : Nat) (x : SigI) : (sEs s).set k (sE x) = sEs (s.set k x) := by
  simp only [sEs, List.map_set]

set_option maxRecDepth 100000 in
theorem pos_cl (y : VI) (q : Ky) (c : Nat) (A : List Box) (hc : c < A.length) (hA : A.getD c .dead = .cells (kE q)) : ACalls Tryz.prog 45 [.iface (viT y) (viX y), .ptr c 0] A (fun r A' => r = .bool (decide (viK y = q)) ∧ A' = A) := by
  have he := kE_eq (viK y) q
  simp only [kE] at hA he
  refine acalls_enter (cf := cf 8 [0, 1, 3]) foll Tryz.func45 Tryz.ntmps45 (by simp [cf]) ?_
  simp only [Tryz.f45, EnterK_some, zW, zX, zD, builtinA, isLeaf, const1, ustrA, simprocAttr, ti51, ks51, cf, Tryz.results45]
  refine .inl ⟨by kernel_rfl, by kernel_rfl, ?_⟩
  refine wpD_invoke _ _ _ _ _ _ _ _ _ _ _ _ _ _ _ _ ?_
  simp only [zW, zX, zD, builtinA, isLeaf, const1, ustrA, simprocAttr, ti51, ks51, cf, Tryz.results45]
  refine methI_invD (metI3 (by kernel_rfl) (by kernel_rfl) (by kernel_rfl) (by kernel_rfl) (by kernel_rfl) (by kernel_rfl)) (keyI y _) rfl (fun _ => rfl) ?_
  simp only [kE]
  simp only [zW, zX, zD, builtinA, isLeaf, const1, ustrA, simprocAttr, ti51, ks51, cf, Tryz.results45, hA, he]

set_option maxRecDepth 100000 in
theorem idx_items (ys : List VI) (hl : ys.length ≤ 1000) (q : Ky) (c : Nat) (A : List Box) (hc : c < A.length) (hA : A.getD c .dead = .cells (kE q)) :
    ACalls Tryz.prog 44 [.slice (vRows ys), .func (.func 45) [] [.ptr c 0]] A (fun r A' => ((∃ i, i < ys.length ∧ viK (ys.getD i vi0) = q ∧ r = .int .i64 (i : Nat)) ∨ ((∀ i, i < ys.length → viK (ys.getD i vi0) ≠ q) ∧ r = .int .i64 (-1))) ∧ A' = A) := by
  refine acalls_enter (cf := cf 19 [0, 1, 4, 5, 7, 8, 9, 16]) foll Tryz.func44 Tryz.ntmps44 (by simp [cf]) ?_
  simp only [Tryz.f44, EnterK_some, zW, zX, zD, builtinA, isLeaf, const1, ustrA, simprocAttr, ti3, ti47, ti54, cf, Tryz.results44]
  simp only [zW, zX, zD, builtinA, isLeaf, const1, ustrA, simprocAttr, ti3, ti47, ti54, cf, Tryz.results44, vRows_length]
  refine aloop_intro [0, 1, 7, 8] (fun e A' => ∃ i, i ≤ ys.length ∧ (∀ k, k < i → viK (ys.getD k vi0) ≠ q) ∧ e = [(0, .slice (vRows ys)), (1, .func (.func 45) [] [.ptr c 0]), (7, .int .i64 ys.length), (8, .int .i64 i)] ∧ A' = A) (fun e _ => ys.length - (intOf (Abs.look 8 e)).toNat) ?_ ?_
  · simp only [zW, zX, zD, builtinA, isLeaf, const1, ustrA, simprocAttr, ti3, ti47, ti54, cf, Tryz.results44]
    exact ⟨0, by omega, fun k hk => by omega, rfl⟩
  · rintro e A' ⟨i, hi, hq, rfl, rfl⟩
    by_cases hlt : i < ys.length
    · have d2 : decide ((i : Int) < (ys.length : Int)) = true := by simp; omega
      have hlt' : 0 ≤ (i : Int) ∧ (i : Int) < (ys.length : Int) := by omega
      have hg := vRows_getD hlt
      have hi1 : IntKind.i64.wrap ((i : Int) + 1) = ((i + 1 : Nat) : Int) := by rw [wrap64 (by omega) (by omega)]; rfl
      generalize hyv : ys.getD i vi0 = y at *
      rw [vRow] at hg
      simp only [zW, zX, zD, builtinA, isLeaf, const1, ustrA, simprocAttr, ti3, ti47, ti54, cf, Tryz.results44, vRows_length, d2, hg]
      refine ⟨hlt', ?_⟩
      refine wpO_callv _ _ _ _ _ _ _ _ _ _ _ _ _ _ _ ?_
      simp only [zW, zX, zD, builtinA, isLeaf, const1, ustrA, simprocAttr, ti3, ti47, ti54, cf, Tryz.results44]
      refine ⟨by kernel_rfl, ?_⟩
      refine callO_intro (pos_cl y q c _ hc hA) ?_
      rintro r A' ⟨rfl, rfl⟩
      by_cases hk : viK y = q
      · simp only [zW, zX, zD, builtinA, isLeaf, const1, ustrA, simprocAttr, ti3, ti47, ti54, cf, Tryz.results44, decide_eq_true hk]
        exact .inl ⟨i, hlt, by rw [hyv]; exact hk, rfl⟩
      · simp only [zW, zX, zD, builtinA, isLeaf, const1, ustrA, simprocAttr, ti3, ti47, ti54, cf, Tryz.results44, decide_eq_false hk, hi1, LoopK_eq]
        refine ⟨⟨i + 1, by omega, fun k hk2 => ?_, rfl⟩, ?_⟩
        · rcases Nat.lt_succ_iff_lt_or_eq.mp hk2 with h | rfl
          · exact hq k h
          · rw [hyv]; exact hk
        · simp only [intOf]; omega
    · have d2 : decide ((i : Int) < (ys.length : Int)) = false := by simp; omega
      have e : i = ys.length := by omega
      subst e
      simp only [zW, zX, zD, builtinA, isLeaf, const1, ustrA, simprocAttr, ti3, ti47, ti54, cf, Tryz.results44, vRows_length, d2]
      exact .inr hq

set_option maxRecDepth 100000 in
theorem impl_position (ys : List VI) (hl : ys.length ≤ 1000) (q : Ky) (A : List Box) : ACalls Tryz.prog 31 [.slice (vRows ys), .agg (kE q)] A (fun r A' => ((∃ i, i < ys.length ∧ viK (ys.getD i vi0) = q ∧ r = .int .i64 (i : Nat)) ∨ ((∀ i, i < ys.length → viK (ys.getD i vi0) ≠ q) ∧ r = .int .i64 (-1))) ∧ A' = A) := by
  have h := idx_items ys hl q A.length (A ++ [.cells (kE q)]) (by simp) (by rw [Abs.getD_append_right (Nat.le_refl _)]; simp)
  simp only [kE] at h
  rw [kE]
  refine acalls_enter (cf := cf 8 [0, 1, 3, 4]) foll Tryz.func31 Tryz.ntmps31 (by simp [cf]) ?_
  simp only [Tryz.f31, EnterK_some, zW, zX, zD, builtinA, isLeaf, const1, ustrA, simprocAttr, ti51, ca44, cf, Tryz.results31]
  refine callO_intro h ?_
  rintro r A' ⟨h2, rfl⟩
  rcases h2 with ⟨i, hi, hv, rfl⟩ | ⟨hn, rfl⟩
  · simp only [zW, zX, zD, builtinA, isLeaf, const1, ustrA, simprocAttr, ti51, ca44, cf, Tryz.results31]
    exact .inl ⟨i, hi, hv, rfl⟩
  · simp only [zW, zX, zD, builtinA, isLeaf, const1, ustrA, simprocAttr, ti51, ca44, cf, Tryz.results31]
    exact .inr hn
theorem mean_ok {x : SigI} {y : VI} (hl : localB x.name = true) (h : ItemOf x y) : VOk (meanI y) := by
  cases y with
  | ab n => exact ⟨by simp only [meanI, okV, nmB]; rw [← h.1, hl]; simp, by simp [meanI, dep], by simp [meanI, cnt]⟩
  | al n v => exact h.2.2.2
  | va n v => exact h.2.2.2

set_option maxRecDepth 100000 in
theorem spec_l2Copy (s : List SigI) (hl : s.length ≤ 1048576) (hz : ∀ x ∈ s, sz x.typ ≤ 1048576) (A : List Box) : ACalls Tryz.prog 16 [.slice (sEs s)] A (fun r A' => ∃ B j, A' = A ++ B ∧ r = .own (A.length + j) ∧ j < B.length ∧ B.getD j .dead = .row 6 (sEs s) 0) := by
  refine acalls_enterK (cf := cf 33 [0, 2, 3, 4, 9]) foll Tryz.func16 Tryz.ntmps16 (by simp [cf]) ?_
  simp only [Tryz.f16, EnterK_some, zW, zX, zD, builtinA, isLeaf, const1, ustrA, simprocAttr, ti3, ti9, ti24, ti42, ti44, ca28, cf, Tryz.results16]
  refine aloop_intro [0, 3, 4] (fun e A' => ∃ i j B, i ≤ s.length ∧ e = [(0, .slice (sEs s)), (3, .own (A.length + j)), (4, .int .i64 i)] ∧ A' = A ++ B ∧ j < B.length ∧ B.getD j .dead = .row 6 (sEs (s.take i)) 0) (fun e _ => s.length - (intOf (Abs.look 4 e)).toNat) ?_ ?_
  · simp only [zW, zX, zD, builtinA, isLeaf, const1, ustrA, simprocAttr, ti3, ti9, ti24, ti42, ti44, ca28, cf, Tryz.results16]
    exact ⟨0, 0, [.row 6 [] 0], by omega, rfl, rfl, by simp, rfl⟩
  · rintro e A' ⟨i, j, B, hi, rfl, rfl, hj, hg⟩
    simp only [zW, zX, zD, builtinA, isLeaf, const1, ustrA, simprocAttr, ti3, ti9, ti24, ti42, ti44, ca28, cf, Tryz.results16, sEs_length]
    refine condK_intro (fun h2 => ?_) (fun h2 => ?_)
    · have hi2 : i < s.length := by simpa using h2
      have he := sEs_getD hi2
      have hmm : s.getD i si0 ∈ s := by simp [List.getD, hi2]
      have hi1 : IntKind.i64.wrap ((i : Int) + 1) = ((i + 1 : Nat) : Int) := by rw [wrap64 (by omega) (by omega)]; rfl
      have hsn : sEs (s.take i) ++ [sE (s.getD i si0)] = sEs (s.take (i + 1)) := by
        rw [sEs, sEs, List.take_add_one, List.map_append]
        simp [List.getD, hi2]
      have pi : (0 : Int) ≤ (i : Int) ∧ (i : Int) < (s.length : Int) := ⟨by omega, by omega⟩
      generalize hx : s.getD i si0 = x at *
      simp only [sE] at he hsn
      have hl6 : ∀ (k : Int) (n : List UInt8) (t : Ty), (AV.int .i64 k :: .str n :: enc t).length = 6 := fun k n t => by simp [enc_length]
      simp only [wpc_skip, AThen_normal, wpc_block, wpc_seq, wpc_drawn]
      refine .inr (drawE_intro [(false, 0, 2), (false, 0, 1), (false, 0, 1), (false, 0, 1), (false, 0, 1), (false, 0, 1), (false, 0, 1), (false, 0, 1), (false, 0, 1), (false, 0, 1), (false, 0, 1), (false, 0, 0), (false, 0, 0), (false, 0, 0), (false, 0, 0), (false, 0, 0), (true, 0, 0), (false, 1, 1), (true, 1, 1), (true, 2, 2), (false, 3, 3)] [A ++ B, A ++ B, A ++ (B ++ [.row 6 [(.int .i64 x.kind :: .str x.name :: enc x.typ)] 0]), A ++ (B.set j .dead ++ [.row 6 [(.int .i64 x.kind :: .str x.name :: enc x.typ)] 0, .row 6 (sEs (s.take i) ++ [(.int .i64 x.kind :: .str x.name :: enc x.typ)]) 0])] 3 rfl (by kernel_rfl) (by kernel_rfl) (by kernel_rfl) (by kernel_rfl) (by kernel_rfl) (by kernel_rfl) ?_)
      simp only [zW, zX, zD, builtinA, isLeaf, const1, ustrA, simprocAttr, ti3, ti9, ti24, ti42, ti44, ca28, cf, Tryz.results16, he, hj, hg, enc_length, enc_take, sb_drop, frzL_enc, sb_closed, Option.map_some, sEs_length]
      refine ⟨pi, pi, pi, pi, pi, ?_⟩
      refine callE_intro (by simp only [zW, zX, zD, builtinA, isLeaf, const1, ustrA, simprocAttr, enc_length, enc_take, sb_drop, frzL_enc, sb_closed, Option.map_some] <;> rfl) (spec_l1Copy0 x.typ (hz x hmm) _) ?_ rfl rfl
      simp only [zW, zX, zD, builtinA, isLeaf, const1, ustrA, simprocAttr, ti3, ti9, ti24, ti42, ti44, ca28, cf, Tryz.results16, he, hj, hg, enc_length, enc_take, sb_drop, frzL_enc, sb_closed, Option.map_some, sEs_length, hl6]
      simp only [zW, zX, zD, builtinA, isLeaf, const1, ustrA, simprocAttr, ti3, ti9, ti24, ti42, ti44, ca28, cf, Tryz.results16, hi1, LoopK_eq]
      refine ⟨fun v hv => sE_leaf x v hv, ⟨fun r hr => by rw [List.mem_singleton.1 hr]; exact hl6 _ _ _, by rw [List.length_take]; omega⟩, ⟨i + 1, B.length + 1, B.set j .dead ++ [.row 6 [(.int .i64 x.kind :: .str x.name :: enc x.typ)] 0, .row 6 (sEs (s.take i) ++ [(.int .i64 x.kind :: .str x.name :: enc x.typ)]) 0], by omega, rfl, rfl, by simp, ?_⟩, ?_⟩
      · rw [getD_sapp, hsn]; rfl
      · simp only [intOf]
        omega
    · have : i = s.length := by simp at h2; omega
      subst this
      rw [List.take_length] at hg
      simp only [zW, zX, zD, builtinA, isLeaf, const1, ustrA, simprocAttr, ti3, ti9, ti24, ti42, ti44, ca28, cf, Tryz.results16, hg, hj]
      exact ⟨B, j, rfl, rfl, hj, hg⟩
theorem itemOk_of {x : SigI} (h : itemOk x = true) : localB x.name = true ∧ ∃ y, ItemOf x y := by
  rw [itemOk, Bool.and_eq_true] at h
  refine ⟨h.1, ?_⟩
  have h2 := h.2
  by_cases k1 : x.kind = 1
  · rw [if_pos k1] at h2
    exact ⟨.ab x.name, rfl, k1, of_decide_eq_true h2⟩
  · rw [if_neg k1] at h2
    by_cases k2 : x.kind = 2 ∨ x.kind = 3
    · rw [if_pos k2] at h2
      rcases valid_cases x.typ with ⟨v, hv, hv2⟩ | hv
      · rcases k2 with k2 | k2
        · exact ⟨.al x.name v, rfl, k2, hv, hv2⟩
        · exact ⟨.va x.name v, rfl, k2, hv, hv2⟩
      · rw [hv] at h2; cases h2
    · rw [if_neg k2] at h2; cases h2
open Classical in
theorem reads_or (s : List SigI) : (∃ x ∈ s, itemOk x = false) ∨ ∃ ys, ReadsTo s ys := by
  by_cases h : ∃ x ∈ s, itemOk x = false
  · exact .inl h
  · have h' : ∀ x ∈ s, itemOk x = true := fun x hx => by
      cases hc : itemOk x with
      | true => rfl
      | false => exact absurd ⟨x, hx, hc⟩ h
    refine .inr ⟨s.map fun x => if hx : ∃ y, ItemOf x y then hx.choose else vi0, by simp, fun i hi => ?_⟩
    have hm := si_mem hi
    obtain ⟨h1, h2⟩ := itemOk_of (h' _ hm)
    refine ⟨h1, ?_⟩
    have e : (s.map fun x => if hx : ∃ y, ItemOf x y then hx.choose else vi0).getD i vi0 = if hx : ∃ y, ItemOf (s.getD i si0) y then hx.choose else vi0 := by
      simp [List.getD, hi]
    rw [e, dif_pos h2]
    exact h2.choose_spec
theorem sigB_yes {s : List SigI} (h : sigB s = true) : ∃ ys, s.length ≤ 8 ∧ ReadsTo s ys ∧ ordB ys = true := by
  have h8 : s.length ≤ 8 := by
    rcases Nat.lt_or_ge 8 s.length with h1 | h1
    · rw [sigB_bad (.inl h1)] at h; cases h
    · exact h1
  rcases reads_or s with hb | ⟨ys, hr⟩
  · rw [sigB_bad (.inr hb)] at h; cases h
  · exact ⟨ys, h8, hr, by rw [← sigB_reads h8 hr]; exact h⟩
end Go.Proofs.YtejbjgmgdbcddaaGreat
