/- Reading a signature with normal types, and what a name in it stands for. -/
import Derived.Test.YtkajklfohjcofaaGreatDoorSigNorm
import Derived.Test.YtkajklfohjcofaaGreatDoorAbsW3
set_option linter.unusedVariables false
set_option linter.unusedSimpArgs false
namespace Go.Proofs.YtkajklfohjcofaaGreatDoor
open Go.Abs

set_option maxRecDepth 100000 in
theorem pos_cl (y : VI) (q : Ky) (c : Nat) (A : List Box) (hc : c < A.length) (hA : A.getD c .dead = .cells (kE q)) : ACalls Tryz.prog 129 [.iface (viT y) (viX y), .ptr c 0] A (fun r A' => r = .bool (decide (viK y = q)) ∧ A' = A) := by
  have he := kE_eq (viK y) q
  simp only [kE] at hA he
  refine acalls_enter (cf := cf 8 [0, 1, 3]) foll Tryz.func129 Tryz.ntmps129 (by simp [cf]) ?_
  simp only [Tryz.f129, EnterK_some, zW, zX, zD, builtinA, isLeaf, const1, ustrA, simprocAttr, ti68, ks68, cf, Tryz.results129]
  refine .inl ⟨by kernel_rfl, by kernel_rfl, ?_⟩
  refine wpD_invoke _ _ _ _ _ _ _ _ _ _ _ _ _ _ _ _ ?_
  simp only [zW, zX, zD, builtinA, isLeaf, const1, ustrA, simprocAttr, ti68, ks68, cf, Tryz.results129]
  refine methI_invD (metI3 (by kernel_rfl) (by kernel_rfl) (by kernel_rfl) (by kernel_rfl) (by kernel_rfl) (by kernel_rfl)) (keyI y _) rfl (fun _ => rfl) ?_
  simp only [kE]
  simp only [zW, zX, zD, builtinA, isLeaf, const1, ustrA, simprocAttr, ti68, ks68, cf, Tryz.results129, hA, he]

set_option maxRecDepth 100000 in
theorem idx_items (ys : List VI) (hl : ys.length ≤ 1000) (q : Ky) (c : Nat) (A : List Box) (hc : c < A.length) (hA : A.getD c .dead = .cells (kE q)) :
    ACalls Tryz.prog 128 [.slice (vRows ys), .func (.func 129) [] [.ptr c 0]] A (fun r A' => ((∃ i, i < ys.length ∧ viK (ys.getD i vi0) = q ∧ r = .int .i64 (i : Nat)) ∨ ((∀ i, i < ys.length → viK (ys.getD i vi0) ≠ q) ∧ r = .int .i64 (-1))) ∧ A' = A) := by
  refine acalls_enter (cf := cf 19 [0, 1, 4, 5, 7, 8, 9, 16]) foll Tryz.func128 Tryz.ntmps128 (by simp [cf]) ?_
  simp only [Tryz.f128, EnterK_some, zW, zX, zD, builtinA, isLeaf, const1, ustrA, simprocAttr, ti3, ti64, ti87, cf, Tryz.results128]
  simp only [zW, zX, zD, builtinA, isLeaf, const1, ustrA, simprocAttr, ti3, ti64, ti87, cf, Tryz.results128, vRows_length]
  refine aloop_intro [0, 1, 7, 8] (fun e A' => ∃ i, i ≤ ys.length ∧ (∀ k, k < i → viK (ys.getD k vi0) ≠ q) ∧ e = [(0, .slice (vRows ys)), (1, .func (.func 129) [] [.ptr c 0]), (7, .int .i64 ys.length), (8, .int .i64 i)] ∧ A' = A) (fun e _ => ys.length - (intOf (Abs.look 8 e)).toNat) ?_ ?_
  · simp only [zW, zX, zD, builtinA, isLeaf, const1, ustrA, simprocAttr, ti3, ti64, ti87, cf, Tryz.results128]
    exact ⟨0, by omega, fun k hk => by omega, rfl⟩
  · rintro e A' ⟨i, hi, hq, rfl, rfl⟩
    by_cases hlt : i < ys.length
    · have d2 : decide ((i : Int) < (ys.length : Int)) = true := by simp; omega
      have hlt' : 0 ≤ (i : Int) ∧ (i : Int) < (ys.length : Int) := by omega
      have hg := vRows_getD hlt
      have hi1 : IntKind.i64.wrap ((i : Int) + 1) = ((i + 1 : Nat) : Int) := by rw [wrap64 (by omega) (by omega)]; rfl
      generalize hyv : ys.getD i vi0 = y at *
      rw [vRow] at hg
      simp only [zW, zX, zD, builtinA, isLeaf, const1, ustrA, simprocAttr, ti3, ti64, ti87, cf, Tryz.results128, vRows_length, d2, hg]
      refine ⟨hlt', ?_⟩
      refine wpO_callv _ _ _ _ _ _ _ _ _ _ _ _ _ _ _ ?_
      simp only [zW, zX, zD, builtinA, isLeaf, const1, ustrA, simprocAttr, ti3, ti64, ti87, cf, Tryz.results128]
      refine ⟨by kernel_rfl, ?_⟩
      refine callO_intro (pos_cl y q c _ hc hA) ?_
      rintro r A' ⟨rfl, rfl⟩
      by_cases hk : viK y = q
      · simp only [zW, zX, zD, builtinA, isLeaf, const1, ustrA, simprocAttr, ti3, ti64, ti87, cf, Tryz.results128, decide_eq_true hk]
        exact .inl ⟨i, hlt, by rw [hyv]; exact hk, rfl⟩
      · simp only [zW, zX, zD, builtinA, isLeaf, const1, ustrA, simprocAttr, ti3, ti64, ti87, cf, Tryz.results128, decide_eq_false hk, hi1, LoopK_eq]
        refine ⟨⟨i + 1, by omega, fun k hk2 => ?_, rfl⟩, ?_⟩
        · rcases Nat.lt_succ_iff_lt_or_eq.mp hk2 with h | rfl
          · exact hq k h
          · rw [hyv]; exact hk
        · simp only [intOf]; omega
    · have d2 : decide ((i : Int) < (ys.length : Int)) = false := by simp; omega
      have e : i = ys.length := by omega
      subst e
      simp only [zW, zX, zD, builtinA, isLeaf, const1, ustrA, simprocAttr, ti3, ti64, ti87, cf, Tryz.results128, vRows_length, d2]
      exact .inr hq

set_option maxRecDepth 100000 in
theorem impl_position (ys : List VI) (hl : ys.length ≤ 1000) (q : Ky) (A : List Box) : ACalls Tryz.prog 95 [.slice (vRows ys), .agg (kE q)] A (fun r A' => ((∃ i, i < ys.length ∧ viK (ys.getD i vi0) = q ∧ r = .int .i64 (i : Nat)) ∨ ((∀ i, i < ys.length → viK (ys.getD i vi0) ≠ q) ∧ r = .int .i64 (-1))) ∧ A' = A) := by
  have h := idx_items ys hl q A.length (A ++ [.cells (kE q)]) (by simp) (by rw [Abs.getD_append_right (Nat.le_refl _)]; simp)
  simp only [kE] at h
  rw [kE]
  refine acalls_enter (cf := cf 8 [0, 1, 3, 4]) foll Tryz.func95 Tryz.ntmps95 (by simp [cf]) ?_
  simp only [Tryz.f95, EnterK_some, zW, zX, zD, builtinA, isLeaf, const1, ustrA, simprocAttr, ti68, ca128, cf, Tryz.results95]
  refine callO_intro h ?_
  rintro r A' ⟨h2, rfl⟩
  rcases h2 with ⟨i, hi, hv, rfl⟩ | ⟨hn, rfl⟩
  · simp only [zW, zX, zD, builtinA, isLeaf, const1, ustrA, simprocAttr, ti68, ca128, cf, Tryz.results95]
    exact .inl ⟨i, hi, hv, rfl⟩
  · simp only [zW, zX, zD, builtinA, isLeaf, const1, ustrA, simprocAttr, ti68, ca128, cf, Tryz.results95]
    exact .inr hn

/-- the item with a key -/
def FindO (ys : List VI) (q : Ky) (o : Option VT) : Prop := match o with
  | some v => ∃ i, i < ys.length ∧ viK (ys.getD i vi0) = q ∧ meanI (ys.getD i vi0) = v
  | none => ∀ i, i < ys.length → viK (ys.getD i vi0) ≠ q
def findR : Option VT → AV
  | some v => .tuple [.iface (vT v) (vX v), .bool true]
  | none => .tuple [.nili, .bool false]
set_option maxRecDepth 100000 in
theorem impl_findSig (ys : List VI) (hl : ys.length ≤ 1000) (q : Ky) (A : List Box) : ACalls Tryz.prog 63 [.slice (vRows ys), .agg (kE q)] A (fun r A' => ∃ o, FindO ys q o ∧ r = findR o ∧ A' = A) := by
  have h := fun A => impl_position ys hl q A
  simp only [kE] at h
  rw [kE]
  refine acalls_enter (cf := cf 17 [0, 1, 3, 4, 5, 6, 11]) foll Tryz.func63 Tryz.ntmps63 (by simp [cf]) ?_
  simp only [Tryz.f63, EnterK_some, zW, zX, zD, builtinA, isLeaf, const1, ustrA, simprocAttr, ti3, ti64, ti68, ti87, ca95, cf, Tryz.results63]
  refine callO_intro (h _) ?_
  rintro r A' ⟨h2, rfl⟩
  rcases h2 with ⟨i, hi, hv, rfl⟩ | ⟨hn, rfl⟩
  · have d2 : decide ((i : Int) < 0) = false := decide_eq_false (by omega)
    have hg := vRows_getD hi
    generalize hyv : ys.getD i vi0 = y at *
    rw [vRow] at hg
    simp only [zW, zX, zD, builtinA, isLeaf, const1, ustrA, simprocAttr, ti3, ti64, ti68, ti87, ca95, cf, Tryz.results63, d2, vRows_length, hg]
    refine ⟨⟨by omega, by omega⟩, ?_⟩
    refine wpO_invoke _ _ _ _ _ _ _ _ _ _ _ _ _ _ _ _ ?_
    simp only [zW, zX, zD, builtinA, isLeaf, const1, ustrA, simprocAttr, ti3, ti64, ti68, ti87, ca95, cf, Tryz.results63]
    refine methI_invK (metI3 (by kernel_rfl) (by kernel_rfl) (by kernel_rfl) (by kernel_rfl) (by kernel_rfl) (by kernel_rfl)) (meanIf y _) rfl (fun _ => rfl) ?_
    rintro r A' ⟨rfl, rfl⟩
    simp only [zW, zX, zD, builtinA, isLeaf, const1, ustrA, simprocAttr, ti3, ti64, ti68, ti87, ca95, cf, Tryz.results63]
    exact ⟨some (meanI y), ⟨i, hi, by rw [hyv]; exact hv, by rw [hyv]⟩, rfl⟩
  · have d2 : decide ((-1 : Int) < 0) = true := rfl
    simp only [zW, zX, zD, builtinA, isLeaf, const1, ustrA, simprocAttr, ti3, ti64, ti68, ti87, ca95, cf, Tryz.results63, d2]
    exact ⟨none, hn, rfl⟩
end Go.Proofs.YtkajklfohjcofaaGreatDoor

namespace Go.Proofs.YtkajklfohjcofaaGreatDoor
open Go.Abs

theorem mean_ok {x : SigI} {y : VI} (hl : localB x.name = true) (h : ItemOf x y) : VOk (meanI y) := by
  cases y with
  | ab n => exact ⟨by simp only [meanI, okV, nmB]; rw [← h.1, hl]; simp, by simp [meanI, dep], by simp [meanI, cnt]⟩
  | al n v => exact h.2.2.2
  | va n v => exact h.2.2.2
/-- what reading with normal types answers -/
def RdN (s : List SigI) : Option (List VI) → Prop
  | some zs => ∃ ys, s.length ≤ 8 ∧ ReadsTo s ys ∧ ordB ys = true ∧ normL [] ys = some zs
  | none => (8 < s.length ∨ ∃ x ∈ s, itemOk x = false) ∨ ∃ ys, s.length ≤ 8 ∧ ReadsTo s ys ∧ (ordB ys = false ∨ normL [] ys = none)

set_option maxRecDepth 100000 in
theorem impl_readNormal (s : List SigI) (hs : s.length ≤ 1048576) (ho : ∀ x ∈ s, x.Ok ∧ sz x.typ ≤ 1048576) (A : List Box) : ACalls Tryz.prog 62 [.slice (sEs s)] A (fun r A' => ∃ B, A' = A ++ B ∧
    ((∃ zs j, RdN s (some zs) ∧ r = .tuple [.own (A.length + j), .bool true] ∧ j < B.length ∧ B.getD j .dead = .row 1 (vRows zs) 0) ∨ (RdN s none ∧ r = .tuple [.nils, .bool false]))) := by
  refine acalls_enterK (cf := cf 17 [0, 2, 3, 4, 5, 12]) foll Tryz.func62 Tryz.ntmps62 (by simp [cf]) ?_
  simp only [Tryz.f62, EnterK_some, zW, zX, zD, builtinA, isLeaf, const1, ustrA, simprocAttr, ca55, ca79, cf, Tryz.results62]
  refine callK_intro (by simp only [zW, zX, zD, builtinA, isLeaf, const1, ustrA, simprocAttr, Option.map_some]; rfl) (impl_readSig s hs ho _) ?_ rfl
  rintro r A' ⟨h, rfl⟩
  rcases h with ⟨ys, h8, hrt, rfl⟩ | ⟨hbad, rfl⟩
  · cases hord : ordB ys with
    | false =>
      simp only [zW, zX, zD, builtinA, isLeaf, const1, ustrA, simprocAttr, ca55, ca79, cf, Tryz.results62]
      exact ⟨[], by simp, .inr (.inr ⟨ys, h8, hrt, .inl hord⟩)⟩
    | true =>
      have hn := impl_normal ys (by have := hrt.1; omega) (fun k hk => by
        have := hrt.2 k (by rw [← hrt.1]; exact hk)
        exact mean_ok this.1 this.2) hord
      simp only [zW, zX, zD, builtinA, isLeaf, const1, ustrA, simprocAttr, ca55, ca79, cf, Tryz.results62]
      refine callO_intro (hn _) ?_
      rintro r A2 ⟨B, rfl, ⟨zs, j, e, rfl, hj, hg⟩ | ⟨e, rfl⟩⟩
      · simp only [zW, zX, zD, builtinA, isLeaf, const1, ustrA, simprocAttr, ca55, ca79, cf, Tryz.results62]
        exact ⟨_, rfl, .inl ⟨zs, j, ⟨ys, h8, hrt, hord, e⟩, rfl, hj, hg⟩⟩
      · simp only [zW, zX, zD, builtinA, isLeaf, const1, ustrA, simprocAttr, ca55, ca79, cf, Tryz.results62]
        exact ⟨_, rfl, .inr (.inr ⟨ys, h8, hrt, .inr e⟩)⟩
  · simp only [zW, zX, zD, builtinA, isLeaf, const1, ustrA, simprocAttr, ca55, ca79, cf, Tryz.results62]
    exact ⟨[], by simp, .inr (.inl hbad)⟩

theorem vX_free : ∀ v, ifree (vX v) = true
  | .num => rfl
  | .nm m n => rfl
  | .fn a b => by
    have h1 := vX_free a
    have h2 := vX_free b
    simp [vX, ifree, ifrees, h1, h2]
theorem findR_free (o : Option VT) : ifree (findR o) = true := by
  cases o with
  | none => rfl
  | some v => simp [findR, ifree, ifrees, vX_free v]
theorem findR_view (ys : List VI) (hl : ys.length ≤ 1000) (q : Ky) {A : List Box} {i : Nat} (hb : A.getD i .dead = .row 1 (vRows ys) 0) : ACalls Tryz.prog 63 [.own i, .agg (kE q)] A (fun r A' => ∃ o, FindO ys q o ∧ r = findR o ∧ A' = A) := by
  refine ACalls.borrow (.cons (.row i 1 0 (vRows ys) (vRows ys) hb rfl (vRows_leaf ys) (vRows_view ys _)) (.cons (.agg _ _ rfl fun k hk => .leaf _ (by have h2 : k < 2 := hk; match k, h2 with | 0, _ => rfl | 1, _ => rfl)) .nil)) ((impl_findSig ys hl q _).mono ?_)
  rintro r A' ⟨o, h1, rfl, rfl⟩
  exact ⟨[], by simp, findR_free o, by simp, o, h1, rfl, by simp⟩
/-- what a key of a signature stands for -/
def MeanIs (s : List SigI) (q : Ky) (o : Option VT) : Prop := (∃ zs, RdN s (some zs) ∧ FindO zs q o) ∨ (RdN s none ∧ o = none)
theorem normL_len : ∀ {ys zs : List VI} {m : List (BNm × VT)}, normL m ys = some zs → zs.length = ys.length
  | [], zs, m, h => by cases h; rfl
  | y :: ys, zs, m, h => by
    rw [normL] at h
    split at h
    · obtain ⟨x, hx, rfl⟩ := Option.map_eq_some_iff.1 h
      simp [normL_len hx]
    · cases h

set_option maxRecDepth 100000 in
theorem impl_findMeaning (s : List SigI) (hs : s.length ≤ 1048576) (ho : ∀ x ∈ s, x.Ok ∧ sz x.typ ≤ 1048576) (q : Ky) (A : List Box) : ACalls Tryz.prog 67 [.slice (sEs s), .agg (kE q)] A (fun r A' => ∃ o, MeanIs s q o ∧ SubOut A o r A') := by
  rw [kE]
  refine acalls_enterK (cf := cf 28 [0, 1, 3, 4, 5, 6, 7, 8, 15, 24]) foll Tryz.func67 Tryz.ntmps67 (by simp [cf]) ?_
  simp only [Tryz.f67, EnterK_some, zW, zX, zD, builtinA, isLeaf, const1, ustrA, simprocAttr, ti45, ti68, ca62, ca63, cf, Tryz.results67]
  refine callO_intro (impl_readNormal s hs ho _) ?_
  rintro r A1 ⟨B, rfl, ⟨zs, j, hrd, rfl, hj, hg⟩ | ⟨hrd, rfl⟩⟩
  · have hzl : zs.length ≤ 1000 := by
      obtain ⟨ys, h8, hrt, _, hn⟩ := hrd
      have := normL_len hn
      have := hrt.1
      omega
    have hg2 : (A ++ (.cells [.bool q.1, .str q.2] :: .cells [.int .i64 0, .str [], .str [], .nils] :: B)).getD (A.length + 2 + j) .dead = .row 1 (vRows zs) 0 := by
      rw [Abs.getD_append_right (by omega), show A.length + 2 + j - A.length = j + 1 + 1 by omega]; exact hg
    have hfv := findR_view zs hzl q hg2
    simp only [kE] at hfv
    simp only [zW, zX, zD, builtinA, isLeaf, const1, ustrA, simprocAttr, ti45, ti68, ca62, ca63, cf, Tryz.results67]
    refine callO_intro hfv ?_
    rintro r A' ⟨o, hfo, rfl, rfl⟩
    cases o with
    | none =>
      simp only [findR]
      simp only [zW, zX, zD, builtinA, isLeaf, const1, ustrA, simprocAttr, ti45, ti68, ca62, ca63, cf, Tryz.results67]
      exact ⟨none, .inl ⟨zs, hrd, hfo⟩, rfl, by simp, fun i hi => Abs.getD_append_left hi⟩
    | some w =>
      simp only [findR]
      simp only [zW, zX, zD, builtinA, isLeaf, const1, ustrA, simprocAttr, ti45, ti68, ca62, ca63, cf, Tryz.results67]
      refine wpO_invoke _ _ _ _ _ _ _ _ _ _ _ _ _ _ _ _ ?_
      simp only [zW, zX, zD, builtinA, isLeaf, const1, ustrA, simprocAttr, ti45, ti68, ca62, ca63, cf, Tryz.results67]
      refine meth_invK (met3 (by kernel_rfl) (by kernel_rfl) (by kernel_rfl) (by kernel_rfl) (by kernel_rfl) (by kernel_rfl)) (plainM w _) rfl (fun _ => rfl) ?_
      rintro r A' ⟨rfl, rfl⟩
      have hpl : ∀ n, (prow w n true).length = 4 := fun n => prow_length _ _ _
      simp only [zW, zX, zD, builtinA, isLeaf, const1, ustrA, simprocAttr, ti45, ti68, ca62, ca63, cf, Tryz.results67, hpl]
      refine ⟨some w, .inl ⟨zs, hrd, hfo⟩, prow w (A.length + (B.length + 1 + 1)) true, pidx w (A.length + (B.length + 1 + 1)), by rw [List.take_of_length_le (by rw [hpl]; exact Nat.le_refl _)], own_plain w _ true _ (fun k hk => ?_), pidx_nodup _ _, fun i hi => by have := pidx_in _ _ i hi; omega, by simp, fun i hi => Abs.getD_append_left hi⟩
      rw [Abs.getD_append_right (by omega), show A.length + (B.length + 1 + 1) + k - A.length = (B.length + k) + 1 + 1 by omega, List.getD_cons_succ, List.getD_cons_succ, Abs.getD_append_right (by omega), show B.length + k - B.length = k by omega]
  · simp only [zW, zX, zD, builtinA, isLeaf, const1, ustrA, simprocAttr, ti45, ti68, ca62, ca63, cf, Tryz.results67]
    exact ⟨none, .inr ⟨hrd, rfl⟩, rfl, by simp, fun i hi => Abs.getD_append_left hi⟩
end Go.Proofs.YtkajklfohjcofaaGreatDoor
