/- SigRdN, SubT, SigOne. -/
import Derived.Test.YtpoknljchikklaaGreatN09
import Derived.Test.YtpoknljchikklaaGreatAbsW3
/- Reading a signature with normal types, and what a name in it stands for. -/
set_option linter.unusedVariables false
set_option linter.unusedSimpArgs false
namespace Go.Proofs.YtpoknljchikklaaGreat
open Go.Abs

set_option maxRecDepth 100000 in
theorem pos_cl (y : VI) (q : Ky) (c : Nat) (A : List Box) (hc : c < A.length) (hA : A.getD c .dead = .cells (kE q)) : ACalls Tryz.prog 203 [.iface (viT y) (viX y), .ptr c 0] A (fun r A' => r = .bool (decide (viK y = q)) ∧ A' = A) := by
  have he := kE_eq (viK y) q
  simp only [kE] at hA he
  refine acalls_enter (cf := cf 8 [0, 1, 3]) foll Tryz.func203 Tryz.ntmps203 (by simp [cf]) ?_
  simp only [Tryz.f203, EnterK_some, zW, zX, zD, builtinA, isLeaf, const1, ustrA, simprocAttr, ti138, ks138, cf, Tryz.results203]
  refine .inl ⟨by kernel_rfl, by kernel_rfl, ?_⟩
  refine wpD_invoke _ _ _ _ _ _ _ _ _ _ _ _ _ _ _ _ ?_
  simp only [zW, zX, zD, builtinA, isLeaf, const1, ustrA, simprocAttr, ti138, ks138, cf, Tryz.results203]
  refine methI_invD (metI3 (by kernel_rfl) (by kernel_rfl) (by kernel_rfl) (by kernel_rfl) (by kernel_rfl) (by kernel_rfl)) (keyI y _) rfl (fun _ => rfl) ?_
  simp only [kE]
  simp only [zW, zX, zD, builtinA, isLeaf, const1, ustrA, simprocAttr, ti138, ks138, cf, Tryz.results203, hA, he]

set_option maxRecDepth 100000 in
theorem idx_items (ys : List VI) (hl : ys.length ≤ 1000) (q : Ky) (c : Nat) (A : List Box) (hc : c < A.length) (hA : A.getD c .dead = .cells (kE q)) :
    ACalls Tryz.prog 202 [.slice (vRows ys), .func (.func 203) [] [.ptr c 0]] A (fun r A' => ((∃ i, i < ys.length ∧ viK (ys.getD i vi0) = q ∧ r = .int .i64 (i : Nat)) ∨ ((∀ i, i < ys.length → viK (ys.getD i vi0) ≠ q) ∧ r = .int .i64 (-1))) ∧ A' = A) := by
  refine acalls_enter (cf := cf 19 [0, 1, 4, 5, 7, 8, 9, 16]) foll Tryz.func202 Tryz.ntmps202 (by simp [cf]) ?_
  simp only [Tryz.f202, EnterK_some, zW, zX, zD, builtinA, isLeaf, const1, ustrA, simprocAttr, ti3, ti91, ti171, cf, Tryz.results202]
  simp only [zW, zX, zD, builtinA, isLeaf, const1, ustrA, simprocAttr, ti3, ti91, ti171, cf, Tryz.results202, vRows_length]
  refine aloop_intro [0, 1, 7, 8] (fun e A' => ∃ i, i ≤ ys.length ∧ (∀ k, k < i → viK (ys.getD k vi0) ≠ q) ∧ e = [(0, .slice (vRows ys)), (1, .func (.func 203) [] [.ptr c 0]), (7, .int .i64 ys.length), (8, .int .i64 i)] ∧ A' = A) (fun e _ => ys.length - (intOf (Abs.look 8 e)).toNat) ?_ ?_
  · simp only [zW, zX, zD, builtinA, isLeaf, const1, ustrA, simprocAttr, ti3, ti91, ti171, cf, Tryz.results202]
    exact ⟨0, by omega, fun k hk => by omega, rfl⟩
  · rintro e A' ⟨i, hi, hq, rfl, rfl⟩
    by_cases hlt : i < ys.length
    · have d2 : decide ((i : Int) < (ys.length : Int)) = true := by simp; omega
      have hlt' : 0 ≤ (i : Int) ∧ (i : Int) < (ys.length : Int) := by omega
      have hg := vRows_getD hlt
      have hi1 : IntKind.i64.wrap ((i : Int) + 1) = ((i + 1 : Nat) : Int) := by rw [wrap64 (by omega) (by omega)]; rfl
      generalize hyv : ys.getD i vi0 = y at *
      rw [vRow] at hg
      simp only [zW, zX, zD, builtinA, isLeaf, const1, ustrA, simprocAttr, ti3, ti91, ti171, cf, Tryz.results202, vRows_length, d2, hg]
      refine ⟨hlt', ?_⟩
      refine wpO_callv _ _ _ _ _ _ _ _ _ _ _ _ _ _ _ ?_
      simp only [zW, zX, zD, builtinA, isLeaf, const1, ustrA, simprocAttr, ti3, ti91, ti171, cf, Tryz.results202]
      refine ⟨by kernel_rfl, ?_⟩
      refine callO_intro (pos_cl y q c _ hc hA) ?_
      rintro r A' ⟨rfl, rfl⟩
      by_cases hk : viK y = q
      · simp only [zW, zX, zD, builtinA, isLeaf, const1, ustrA, simprocAttr, ti3, ti91, ti171, cf, Tryz.results202, decide_eq_true hk]
        exact .inl ⟨i, hlt, by rw [hyv]; exact hk, rfl⟩
      · simp only [zW, zX, zD, builtinA, isLeaf, const1, ustrA, simprocAttr, ti3, ti91, ti171, cf, Tryz.results202, decide_eq_false hk, hi1, LoopK_eq]
        refine ⟨⟨i + 1, by omega, fun k hk2 => ?_, rfl⟩, ?_⟩
        · rcases Nat.lt_succ_iff_lt_or_eq.mp hk2 with h | rfl
          · exact hq k h
          · rw [hyv]; exact hk
        · simp only [intOf]; omega
    · have d2 : decide ((i : Int) < (ys.length : Int)) = false := by simp; omega
      have e : i = ys.length := by omega
      subst e
      simp only [zW, zX, zD, builtinA, isLeaf, const1, ustrA, simprocAttr, ti3, ti91, ti171, cf, Tryz.results202, vRows_length, d2]
      exact .inr hq

set_option maxRecDepth 100000 in
theorem impl_position (ys : List VI) (hl : ys.length ≤ 1000) (q : Ky) (A : List Box) : ACalls Tryz.prog 188 [.slice (vRows ys), .agg (kE q)] A (fun r A' => ((∃ i, i < ys.length ∧ viK (ys.getD i vi0) = q ∧ r = .int .i64 (i : Nat)) ∨ ((∀ i, i < ys.length → viK (ys.getD i vi0) ≠ q) ∧ r = .int .i64 (-1))) ∧ A' = A) := by
  have h := idx_items ys hl q A.length (A ++ [.cells (kE q)]) (by simp) (by rw [Abs.getD_append_right (Nat.le_refl _)]; simp)
  simp only [kE] at h
  rw [kE]
  refine acalls_enter (cf := cf 8 [0, 1, 3, 4]) foll Tryz.func188 Tryz.ntmps188 (by simp [cf]) ?_
  simp only [Tryz.f188, EnterK_some, zW, zX, zD, builtinA, isLeaf, const1, ustrA, simprocAttr, ti138, ca202, cf, Tryz.results188]
  refine callO_intro h ?_
  rintro r A' ⟨h2, rfl⟩
  rcases h2 with ⟨i, hi, hv, rfl⟩ | ⟨hn, rfl⟩
  · simp only [zW, zX, zD, builtinA, isLeaf, const1, ustrA, simprocAttr, ti138, ca202, cf, Tryz.results188]
    exact .inl ⟨i, hi, hv, rfl⟩
  · simp only [zW, zX, zD, builtinA, isLeaf, const1, ustrA, simprocAttr, ti138, ca202, cf, Tryz.results188]
    exact .inr hn

/-- the item with a key -/
def FindO (ys : List VI) (q : Ky) (o : Option VT) : Prop := match o with
  | some v => ∃ i, i < ys.length ∧ viK (ys.getD i vi0) = q ∧ meanI (ys.getD i vi0) = v
  | none => ∀ i, i < ys.length → viK (ys.getD i vi0) ≠ q
def findR : Option VT → AV
  | some v => .tuple [.iface (vT v) (vX v), .bool true]
  | none => .tuple [.nili, .bool false]
set_option maxRecDepth 100000 in
theorem impl_findSig (ys : List VI) (hl : ys.length ≤ 1000) (q : Ky) (A : List Box) : ACalls Tryz.prog 149 [.slice (vRows ys), .agg (kE q)] A (fun r A' => ∃ o, FindO ys q o ∧ r = findR o ∧ A' = A) := by
  have h := fun A => impl_position ys hl q A
  simp only [kE] at h
  rw [kE]
  refine acalls_enter (cf := cf 17 [0, 1, 3, 4, 5, 6, 11]) foll Tryz.func149 Tryz.ntmps149 (by simp [cf]) ?_
  simp only [Tryz.f149, EnterK_some, zW, zX, zD, builtinA, isLeaf, const1, ustrA, simprocAttr, ti3, ti91, ti138, ti171, ca188, cf, Tryz.results149]
  refine callO_intro (h _) ?_
  rintro r A' ⟨h2, rfl⟩
  rcases h2 with ⟨i, hi, hv, rfl⟩ | ⟨hn, rfl⟩
  · have d2 : decide ((i : Int) < 0) = false := decide_eq_false (by omega)
    have hg := vRows_getD hi
    generalize hyv : ys.getD i vi0 = y at *
    rw [vRow] at hg
    simp only [zW, zX, zD, builtinA, isLeaf, const1, ustrA, simprocAttr, ti3, ti91, ti138, ti171, ca188, cf, Tryz.results149, d2, vRows_length, hg]
    refine ⟨⟨by omega, by omega⟩, ?_⟩
    refine wpO_invoke _ _ _ _ _ _ _ _ _ _ _ _ _ _ _ _ ?_
    simp only [zW, zX, zD, builtinA, isLeaf, const1, ustrA, simprocAttr, ti3, ti91, ti138, ti171, ca188, cf, Tryz.results149]
    refine methI_invK (metI3 (by kernel_rfl) (by kernel_rfl) (by kernel_rfl) (by kernel_rfl) (by kernel_rfl) (by kernel_rfl)) (meanIf y _) rfl (fun _ => rfl) ?_
    rintro r A' ⟨rfl, rfl⟩
    simp only [zW, zX, zD, builtinA, isLeaf, const1, ustrA, simprocAttr, ti3, ti91, ti138, ti171, ca188, cf, Tryz.results149]
    exact ⟨some (meanI y), ⟨i, hi, by rw [hyv]; exact hv, by rw [hyv]⟩, rfl⟩
  · have d2 : decide ((-1 : Int) < 0) = true := rfl
    simp only [zW, zX, zD, builtinA, isLeaf, const1, ustrA, simprocAttr, ti3, ti91, ti138, ti171, ca188, cf, Tryz.results149, d2]
    exact ⟨none, hn, rfl⟩
end Go.Proofs.YtpoknljchikklaaGreat

namespace Go.Proofs.YtpoknljchikklaaGreat
open Go.Abs

theorem mean_ok {x : SigI} {y : VI} (hl : localB x.name = true) (h : ItemOf x y) : VOk (meanI y) := by
  cases y with
  | ab n => exact ⟨by simp only [meanI, okV, nmB]; rw [← h.1, hl]; simp, by simp [meanI, dep], by simp [meanI, cnt]⟩
  | al n v => exact h.2.2.2
  | va n v => exact h.2.2.2
/-- what reading with normal types answers -/
def RdN (s : List SigI) : Option (List VI) → Prop
  | some zs => ∃ ys, s.length ≤ 8 ∧ ReadsTo s ys ∧ ordB ys = true ∧ normL [] ys = some zs
  | none => (8 < s.length ∨ ∃ x ∈ s, itemOk x = false) ∨ ∃ ys, s.length ≤ 8 ∧ ReadsTo s ys ∧ (ordB ys = false ∨ normL [] ys = none)

set_option maxRecDepth 100000 in
theorem impl_readNormal (s : List SigI) (hs : s.length ≤ 1048576) (ho : ∀ x ∈ s, x.Ok ∧ sz x.typ ≤ 1048576) (A : List Box) : ACalls Tryz.prog 92 [.slice (sEs s)] A (fun r A' => ∃ B, A' = A ++ B ∧
    ((∃ zs j, RdN s (some zs) ∧ r = .tuple [.own (A.length + j), .bool true] ∧ j < B.length ∧ B.getD j .dead = .row 1 (vRows zs) 0) ∨ (RdN s none ∧ r = .tuple [.nils, .bool false]))) := by
  refine acalls_enterK (cf := cf 17 [0, 2, 3, 4, 5, 12]) foll Tryz.func92 Tryz.ntmps92 (by simp [cf]) ?_
  simp only [Tryz.f92, EnterK_some, zW, zX, zD, builtinA, isLeaf, const1, ustrA, simprocAttr, ca62, ca144, cf, Tryz.results92]
  refine callK_intro (by simp only [zW, zX, zD, builtinA, isLeaf, const1, ustrA, simprocAttr, Option.map_some]; rfl) (impl_readSig s hs ho _) ?_ rfl
  rintro r A' ⟨h, rfl⟩
  rcases h with ⟨ys, h8, hrt, rfl⟩ | ⟨hbad, rfl⟩
  · cases hord : ordB ys with
    | false =>
      simp only [zW, zX, zD, builtinA, isLeaf, const1, ustrA, simprocAttr, ca62, ca144, cf, Tryz.results92]
      exact ⟨[], by simp, .inr (.inr ⟨ys, h8, hrt, .inl hord⟩)⟩
    | true =>
      have hn := impl_normal ys (by have := hrt.1; omega) (fun k hk => by
        have := hrt.2 k (by rw [← hrt.1]; exact hk)
        exact mean_ok this.1 this.2) hord
      simp only [zW, zX, zD, builtinA, isLeaf, const1, ustrA, simprocAttr, ca62, ca144, cf, Tryz.results92]
      refine callO_intro (hn _) ?_
      rintro r A2 ⟨B, rfl, ⟨zs, j, e, rfl, hj, hg⟩ | ⟨e, rfl⟩⟩
      · simp only [zW, zX, zD, builtinA, isLeaf, const1, ustrA, simprocAttr, ca62, ca144, cf, Tryz.results92]
        exact ⟨_, rfl, .inl ⟨zs, j, ⟨ys, h8, hrt, hord, e⟩, rfl, hj, hg⟩⟩
      · simp only [zW, zX, zD, builtinA, isLeaf, const1, ustrA, simprocAttr, ca62, ca144, cf, Tryz.results92]
        exact ⟨_, rfl, .inr (.inr ⟨ys, h8, hrt, .inr e⟩)⟩
  · simp only [zW, zX, zD, builtinA, isLeaf, const1, ustrA, simprocAttr, ca62, ca144, cf, Tryz.results92]
    exact ⟨[], by simp, .inr (.inl hbad)⟩

theorem vX_free : ∀ v, ifree (vX v) = true
  | .num => rfl
  | .nm m n => rfl
  | .fn a b => by
    have h1 := vX_free a
    have h2 := vX_free b
    simp [vX, ifree, ifrees, h1, h2]
theorem findR_free (o : Option VT) : ifree (findR o) = true := by
  cases o with
  | none => rfl
  | some v => simp [findR, ifree, ifrees, vX_free v]
theorem findR_view (ys : List VI) (hl : ys.length ≤ 1000) (q : Ky) {A : List Box} {i : Nat} (hb : A.getD i .dead = .row 1 (vRows ys) 0) : ACalls Tryz.prog 149 [.own i, .agg (kE q)] A (fun r A' => ∃ o, FindO ys q o ∧ r = findR o ∧ A' = A) := by
  refine ACalls.borrow (.cons (.row i 1 0 (vRows ys) (vRows ys) hb rfl (vRows_leaf ys) (vRows_view ys _)) (.cons (.agg _ _ rfl fun k hk => .leaf _ (by have h2 : k < 2 := hk; match k, h2 with | 0, _ => rfl | 1, _ => rfl)) .nil)) ((impl_findSig ys hl q _).mono ?_)
  rintro r A' ⟨o, h1, rfl, rfl⟩
  exact ⟨[], by simp, findR_free o, by simp, o, h1, rfl, by simp⟩
/-- what a key of a signature stands for -/
def MeanIs (s : List SigI) (q : Ky) (o : Option VT) : Prop := (∃ zs, RdN s (some zs) ∧ FindO zs q o) ∨ (RdN s none ∧ o = none)
theorem normL_len : ∀ {ys zs : List VI} {m : List (BNm × VT)}, normL m ys = some zs → zs.length = ys.length
  | [], zs, m, h => by cases h; rfl
  | y :: ys, zs, m, h => by
    rw [normL] at h
    split at h
    · obtain ⟨x, hx, rfl⟩ := Option.map_eq_some_iff.1 h
      simp [normL_len hx]
    · cases h

set_option maxRecDepth 100000 in
theorem impl_findMeaning (s : List SigI) (hs : s.length ≤ 1048576) (ho : ∀ x ∈ s, x.Ok ∧ sz x.typ ≤ 1048576) (q : Ky) (A : List Box) : ACalls Tryz.prog 98 [.slice (sEs s), .agg (kE q)] A (fun r A' => ∃ o, MeanIs s q o ∧ SubOut A o r A') := by
  rw [kE]
  refine acalls_enterK (cf := cf 28 [0, 1, 3, 4, 5, 6, 7, 8, 15, 24]) foll Tryz.func98 Tryz.ntmps98 (by simp [cf]) ?_
  simp only [Tryz.f98, EnterK_some, zW, zX, zD, builtinA, isLeaf, const1, ustrA, simprocAttr, ti31, ti138, ca92, ca149, cf, Tryz.results98]
  refine callO_intro (impl_readNormal s hs ho _) ?_
  rintro r A1 ⟨B, rfl, ⟨zs, j, hrd, rfl, hj, hg⟩ | ⟨hrd, rfl⟩⟩
  · have hzl : zs.length ≤ 1000 := by
      obtain ⟨ys, h8, hrt, _, hn⟩ := hrd
      have := normL_len hn
      have := hrt.1
      omega
    have hg2 : (A ++ (.cells [.bool q.1, .str q.2] :: .cells [.int .i64 0, .str [], .str [], .nils] :: B)).getD (A.length + 2 + j) .dead = .row 1 (vRows zs) 0 := by
      rw [Abs.getD_append_right (by omega), show A.length + 2 + j - A.length = j + 1 + 1 by omega]; exact hg
    have hfv := findR_view zs hzl q hg2
    simp only [kE] at hfv
    simp only [zW, zX, zD, builtinA, isLeaf, const1, ustrA, simprocAttr, ti31, ti138, ca92, ca149, cf, Tryz.results98]
    refine callO_intro hfv ?_
    rintro r A' ⟨o, hfo, rfl, rfl⟩
    cases o with
    | none =>
      simp only [findR]
      simp only [zW, zX, zD, builtinA, isLeaf, const1, ustrA, simprocAttr, ti31, ti138, ca92, ca149, cf, Tryz.results98]
      exact ⟨none, .inl ⟨zs, hrd, hfo⟩, rfl, by simp, fun i hi => Abs.getD_append_left hi⟩
    | some w =>
      simp only [findR]
      simp only [zW, zX, zD, builtinA, isLeaf, const1, ustrA, simprocAttr, ti31, ti138, ca92, ca149, cf, Tryz.results98]
      refine wpO_invoke _ _ _ _ _ _ _ _ _ _ _ _ _ _ _ _ ?_
      simp only [zW, zX, zD, builtinA, isLeaf, const1, ustrA, simprocAttr, ti31, ti138, ca92, ca149, cf, Tryz.results98]
      refine meth_invK (met3 (by kernel_rfl) (by kernel_rfl) (by kernel_rfl) (by kernel_rfl) (by kernel_rfl) (by kernel_rfl)) (plainM w _) rfl (fun _ => rfl) ?_
      rintro r A' ⟨rfl, rfl⟩
      have hpl : ∀ n, (prow w n true).length = 4 := fun n => prow_length _ _ _
      simp only [zW, zX, zD, builtinA, isLeaf, const1, ustrA, simprocAttr, ti31, ti138, ca92, ca149, cf, Tryz.results98, hpl]
      refine ⟨some w, .inl ⟨zs, hrd, hfo⟩, prow w (A.length + (B.length + 1 + 1)) true, pidx w (A.length + (B.length + 1 + 1)), by rw [List.take_of_length_le (by rw [hpl]; exact Nat.le_refl _)], own_plain w _ true _ (fun k hk => ?_), pidx_nodup _ _, fun i hi => by have := pidx_in _ _ i hi; omega, by simp, fun i hi => Abs.getD_append_left hi⟩
      rw [Abs.getD_append_right (by omega), show A.length + (B.length + 1 + 1) + k - A.length = (B.length + k) + 1 + 1 by omega, List.getD_cons_succ, List.getD_cons_succ, Abs.getD_append_right (by omega), show B.length + k - B.length = k by omega]
  · simp only [zW, zX, zD, builtinA, isLeaf, const1, ustrA, simprocAttr, ti31, ti138, ca92, ca149, cf, Tryz.results98]
    exact ⟨none, .inr ⟨hrd, rfl⟩, rfl, by simp, fun i hi => Abs.getD_append_left hi⟩
end Go.Proofs.YtpoknljchikklaaGreat

/- The model's SubstType answers as the program's. -/
set_option linter.unusedVariables false
set_option linter.unusedSimpArgs false
namespace Go.Proofs.YtpoknljchikklaaGreat
open Go.Abs

def lookT (m n : List UInt8) (t : Ty) : List BdI → Ty
  | [] => t
  | b :: bs => if b.mod = m ∧ b.name = n then b.typ else lookT m n t bs
theorem bd_drop {l : List BdI} {i : Nat} (h : i < l.length) : l.drop i = l.getD i bd0 :: l.drop (i + 1) := by
  have : l.getD i bd0 = l[i] := by simp [List.getD, h]
  rw [this, List.getElem_cons_drop h]
theorem sub_closed (t : Ty) (n : Nat) : (enc t).all (closed1 n) = true := by cases t; rw [enc]; rfl
theorem sub_drop (t : Ty) : List.drop 4 (enc t) = [] := by cases t; rw [enc]; rfl
mutual
def subT (bs : List BdI) : Ty → Ty
  | .mk k m n ks => if k = 3 then lookT m n (.mk k m n ks) bs else .mk k [] [] (subTs bs ks)
def subTs (bs : List BdI) : List Ty → List Ty
  | [] => []
  | t :: l => subT bs t :: subTs bs l
end
theorem subTs_map (bs : List BdI) : ∀ l, subTs bs l = l.map (subT bs)
  | [] => by simp [subTs]
  | t :: l => by rw [subTs, subTs_map bs l]; rfl

set_option maxRecDepth 100000 in
theorem spec_l1Look (bs : List BdI) (hl : bs.length ≤ 1048576) (k : Int) (m n : List UInt8) (ks : List Ty) (A : List Box) : ACalls Tryz.prog 146 [.slice (bEs bs), .agg (enc (.mk k m n ks))] A (fun r A' => (∃ b, r = .tuple [.agg (enc (lookT m n (.mk k m n ks) bs)), .bool b]) ∧ A' = A) := by
  rw [bT4 (.mk k m n ks)]
  simp only [Ty.kind, Ty.mod, Ty.name, Ty.kids]
  refine acalls_enter (cf := cf 37 [0, 1, 3, 4, 5, 6, 10, 30]) foll Tryz.func146 Tryz.ntmps146 (by simp [cf]) ?_
  simp only [Tryz.f146, EnterK_some, zW, zX, zD, builtinA, isLeaf, const1, Nat.reduceAdd, Nat.reduceMul, Nat.reduceSub, Nat.reduceLT, Nat.reduceLeDiff, Nat.reduceEqDiff, Nat.reduceBEq, Nat.reduceBNe, reduceIte, reduceCtorEq, Int.reduceToNat, Int.reduceLT, Int.reduceLE, Int.reduceEq, Int.reduceNe, Int.reduceNeg, ustrA, ti3, ti9, ti31, ti133, ti215, cf, Tryz.results146]
  refine aloop_intro [0, 3, 4, 6] (fun e A' => ∃ i, i ≤ bs.length ∧ lookT m n (.mk k m n ks) (bs.drop i) = lookT m n (.mk k m n ks) bs ∧ e = [(0, .slice (bEs bs)), (3, .ptr A.length 0), (4, .ptr (A.length + 1) 0), (6, .int .i64 i)] ∧ A' = A ++ [.cells [.int .i64 k, .str m, .str n, .slice (encs ks)], .cells [.int .i64 0, .str [], .str [], .nils]]) (fun e _ => bs.length - (intOf (Abs.look 6 e)).toNat) ?_ ?_
  · simp only [zW, zX, zD, builtinA, isLeaf, const1, Nat.reduceAdd, Nat.reduceMul, Nat.reduceSub, Nat.reduceLT, Nat.reduceLeDiff, Nat.reduceEqDiff, Nat.reduceBEq, Nat.reduceBNe, reduceIte, reduceCtorEq, Int.reduceToNat, Int.reduceLT, Int.reduceLE, Int.reduceEq, Int.reduceNe, Int.reduceNeg, ustrA, ti3, ti9, ti31, ti133, ti215, cf, Tryz.results146]
    exact ⟨0, by omega, rfl, rfl⟩
  · rintro e A' ⟨i, hi, hq, rfl, rfl⟩
    simp only [zW, zX, zD, builtinA, isLeaf, const1, Nat.reduceAdd, Nat.reduceMul, Nat.reduceSub, Nat.reduceLT, Nat.reduceLeDiff, Nat.reduceEqDiff, Nat.reduceBEq, Nat.reduceBNe, reduceIte, reduceCtorEq, Int.reduceToNat, Int.reduceLT, Int.reduceLE, Int.reduceEq, Int.reduceNe, Int.reduceNeg, ustrA, ti3, ti9, ti31, ti133, ti215, cf, Tryz.results146, bEs_length]
    refine condK_intro (fun h2 => ?_) (fun h2 => ?_)
    · have hi2 : i < bs.length := by simpa using h2
      have he := bEs_getD hi2
      have hi1 : IntKind.i64.wrap ((i : Int) + 1) = ((i + 1 : Nat) : Int) := by rw [wrap64 (by omega) (by omega)]; rfl
      have pi : (0 : Int) ≤ (i : Int) ∧ (i : Int) < (bs.length : Int) := ⟨by omega, by omega⟩
      rw [bd_drop hi2, lookT] at hq
      generalize bs.getD i bd0 = b at *
      simp only [bE] at he
      simp only [zW, zX, zD, builtinA, isLeaf, const1, Nat.reduceAdd, Nat.reduceMul, Nat.reduceSub, Nat.reduceLT, Nat.reduceLeDiff, Nat.reduceEqDiff, Nat.reduceBEq, Nat.reduceBNe, reduceIte, reduceCtorEq, Int.reduceToNat, Int.reduceLT, Int.reduceLE, Int.reduceEq, Int.reduceNe, Int.reduceNeg, ustrA, ti3, ti9, ti31, ti133, ti215, cf, Tryz.results146, he, bEs_length]
      refine .inl ⟨by kernel_rfl, by kernel_rfl, pi, ?_⟩
      by_cases k1 : b.mod = m
      · simp only [zW, zX, zD, builtinA, isLeaf, const1, Nat.reduceAdd, Nat.reduceMul, Nat.reduceSub, Nat.reduceLT, Nat.reduceLeDiff, Nat.reduceEqDiff, Nat.reduceBEq, Nat.reduceBNe, reduceIte, reduceCtorEq, Int.reduceToNat, Int.reduceLT, Int.reduceLE, Int.reduceEq, Int.reduceNe, Int.reduceNeg, ustrA, ti3, ti9, ti31, ti133, ti215, cf, Tryz.results146, decide_eq_true k1, he, bEs_length]
        refine ⟨pi, ?_⟩
        by_cases k2 : b.name = n
        · rw [if_pos ⟨k1, k2⟩] at hq
          simp only [zW, zX, zD, builtinA, isLeaf, const1, Nat.reduceAdd, Nat.reduceMul, Nat.reduceSub, Nat.reduceLT, Nat.reduceLeDiff, Nat.reduceEqDiff, Nat.reduceBEq, Nat.reduceBNe, reduceIte, reduceCtorEq, Int.reduceToNat, Int.reduceLT, Int.reduceLE, Int.reduceEq, Int.reduceNe, Int.reduceNeg, ustrA, ti3, ti9, ti31, ti133, ti215, cf, Tryz.results146, decide_eq_true k2, he, bEs_length]
          refine ⟨pi, true, ?_⟩
          rw [← hq, bT4]
        · rw [if_neg (fun h => k2 h.2)] at hq
          simp only [zW, zX, zD, builtinA, isLeaf, const1, Nat.reduceAdd, Nat.reduceMul, Nat.reduceSub, Nat.reduceLT, Nat.reduceLeDiff, Nat.reduceEqDiff, Nat.reduceBEq, Nat.reduceBNe, reduceIte, reduceCtorEq, Int.reduceToNat, Int.reduceLT, Int.reduceLE, Int.reduceEq, Int.reduceNe, Int.reduceNeg, ustrA, ti3, ti9, ti31, ti133, ti215, cf, Tryz.results146, decide_eq_false k2, hi1, LoopK_eq]
          refine ⟨⟨i + 1, by omega, hq, rfl⟩, ?_⟩
          simp only [intOf]; omega
      · rw [if_neg (fun h => k1 h.1)] at hq
        simp only [zW, zX, zD, builtinA, isLeaf, const1, Nat.reduceAdd, Nat.reduceMul, Nat.reduceSub, Nat.reduceLT, Nat.reduceLeDiff, Nat.reduceEqDiff, Nat.reduceBEq, Nat.reduceBNe, reduceIte, reduceCtorEq, Int.reduceToNat, Int.reduceLT, Int.reduceLE, Int.reduceEq, Int.reduceNe, Int.reduceNeg, ustrA, ti3, ti9, ti31, ti133, ti215, cf, Tryz.results146, decide_eq_false k1, hi1, LoopK_eq]
        refine ⟨⟨i + 1, by omega, hq, rfl⟩, ?_⟩
        simp only [intOf]; omega
    · have : i = bs.length := by simp at h2; omega
      subst this
      rw [List.drop_length, lookT] at hq
      simp only [zW, zX, zD, builtinA, isLeaf, const1, Nat.reduceAdd, Nat.reduceMul, Nat.reduceSub, Nat.reduceLT, Nat.reduceLeDiff, Nat.reduceEqDiff, Nat.reduceBEq, Nat.reduceBNe, reduceIte, reduceCtorEq, Int.reduceToNat, Int.reduceLT, Int.reduceLE, Int.reduceEq, Int.reduceNe, Int.reduceNeg, ustrA, ti3, ti9, ti31, ti133, ti215, cf, Tryz.results146]
      refine ⟨false, ?_⟩
      rw [← hq, bT4]; rfl

theorem lookT_sz (bs : List BdI) (hz : ∀ b ∈ bs, sz b.typ ≤ 1048576) (m n : List UInt8) (t : Ty) (ht : sz t ≤ 1048576) : sz (lookT m n t bs) ≤ 1048576 := by
  induction bs with
  | nil => exact ht
  | cons b bs ih =>
    rw [lookT]
    split
    · exact hz _ (by simp)
    · exact ih fun x hx => hz x (by simp [hx])

set_option maxRecDepth 100000 in
theorem spec_l1Copy0 (τ : Ty) (hτ : sz τ ≤ 1048576) : ∀ (A : List Box), ACalls Tryz.prog 145 [.agg (enc τ)] A (fun r A' => r = .agg (enc τ) ∧ A' = A) := by
  induction τ using Ty.ind with
  | h k m n ks ih =>
    intro A
    have hks : ks.length ≤ 1048576 := by rw [sz] at hτ; omega
    have hok : ∀ t ∈ ks, sz t ≤ 1048576 := fun t ht => by rw [sz] at hτ; have := szs_mem ht; omega
    rw [enc]
    refine acalls_enter (cf := cf 31 [0, 1, 2, 3, 4, 16]) foll Tryz.func145 Tryz.ntmps145 (by simp [cf]) ?_
    simp only [Tryz.f145, EnterK_some, zW, zX, zD, builtinA, isLeaf, const1, Nat.reduceAdd, Nat.reduceMul, Nat.reduceSub, Nat.reduceLT, Nat.reduceLeDiff, Nat.reduceEqDiff, Nat.reduceBEq, Nat.reduceBNe, reduceIte, reduceCtorEq, Int.reduceToNat, Int.reduceLT, Int.reduceLE, Int.reduceEq, Int.reduceNe, Int.reduceNeg, ustrA, ti3, ti9, ti29, ti31, ca145, cf, Tryz.results145]
    refine aloop_intro [1, 2, 3, 4] (fun e A' => ∃ i B x, i ≤ ks.length ∧ e = [(1, .ptr A.length 0), (2, .ptr (A.length + 1) 0), (3, .ptr (A.length + 2) 0), (4, .int .i64 i)] ∧ A' = A ++ (.cells [.int .i64 k, .str m, .str n, .slice (encs ks)] :: .cells [.int .i64 0, .str [], .str [], .nils] :: .cells [.int .i64 k, .str m, .str n, x] :: B) ∧
      ((i = 0 ∧ x = .nils ∧ B = []) ∨ (∃ j, x = .own (A.length + (j + 3)) ∧ j < B.length ∧ B.getD j .dead = .row 4 (encs (ks.take i)) 0))) (fun e _ => ks.length - (intOf (Abs.look 4 e)).toNat) ?_ ?_
    · simp only [zW, zX, zD, builtinA, isLeaf, const1, Nat.reduceAdd, Nat.reduceMul, Nat.reduceSub, Nat.reduceLT, Nat.reduceLeDiff, Nat.reduceEqDiff, Nat.reduceBEq, Nat.reduceBNe, reduceIte, reduceCtorEq, Int.reduceToNat, Int.reduceLT, Int.reduceLE, Int.reduceEq, Int.reduceNe, Int.reduceNeg, ustrA, ti3, ti9, ti29, ti31, ca145, cf, Tryz.results145]
      exact ⟨0, [], .nils, by omega, rfl, rfl, .inl ⟨rfl, rfl, rfl⟩⟩
    · rintro e A' ⟨i, B, x, hi, rfl, rfl, hx⟩
      simp only [zW, zX, zD, builtinA, isLeaf, const1, Nat.reduceAdd, Nat.reduceMul, Nat.reduceSub, Nat.reduceLT, Nat.reduceLeDiff, Nat.reduceEqDiff, Nat.reduceBEq, Nat.reduceBNe, reduceIte, reduceCtorEq, Int.reduceToNat, Int.reduceLT, Int.reduceLE, Int.reduceEq, Int.reduceNe, Int.reduceNeg, ustrA, ti3, ti9, ti29, ti31, ca145, cf, Tryz.results145, encs_length]
      refine condK_intro (fun h2 => ?_) (fun h2 => ?_)
      · have hi2 : i < ks.length := by simpa using h2
        have he := encs_getD hi2
        have hmm := getD_mem hi2
        have hi1 : IntKind.i64.wrap ((i : Int) + 1) = ((i + 1 : Nat) : Int) := by rw [wrap64 (by omega) (by omega)]; rfl
        rcases hx with ⟨rfl, rfl, rfl⟩ | ⟨j, rfl, hj, hg⟩
        · simp only [wpc_skip, AThen_normal, wpc_block, wpc_seq, wpc_drawn]
          refine .inr (drawE_intro [(false, 0, 2), (false, 0, 2), (false, 0, 0), (false, 0, 0), (false, 0, 0), (false, 0, 0), (false, 0, 0), (true, 0, 0), (true, 1, 1), (true, 2, 2), (false, 3, 3), (true, 3, 3)] [A ++ [.cells [.int .i64 k, .str m, .str n, .slice (encs ks)], .cells [.int .i64 0, .str [], .str [], .nils], .cells [.int .i64 k, .str m, .str n, .nils]], A ++ [.cells [.int .i64 k, .str m, .str n, .slice (encs ks)], .cells [.int .i64 0, .str [], .str [], .nils], .cells [.int .i64 k, .str m, .str n, .nils]], A ++ [.cells [.int .i64 k, .str m, .str n, .slice (encs ks)], .cells [.int .i64 0, .str [], .str [], .nils], .cells [.int .i64 k, .str m, .str n, .nils], .row 4 [enc (ks.getD 0 ty0)] 0], A ++ [.cells [.int .i64 k, .str m, .str n, .slice (encs ks)], .cells [.int .i64 0, .str [], .str [], .nils], .cells [.int .i64 k, .str m, .str n, .nils], .row 4 [enc (ks.getD 0 ty0)] 0, .row 4 [enc (ks.getD 0 ty0)] 0], A ++ [.cells [.int .i64 k, .str m, .str n, .slice (encs ks)], .cells [.int .i64 0, .str [], .str [], .nils], .cells [.int .i64 k, .str m, .str n, .own (A.length + 4)], .row 4 [enc (ks.getD 0 ty0)] 0, .row 4 [enc (ks.getD 0 ty0)] 0]] 4 rfl (by kernel_rfl) (by kernel_rfl) (by kernel_rfl) (by kernel_rfl) (by kernel_rfl) (by kernel_rfl) ?_)
          simp only [zW, zX, zD, builtinA, isLeaf, const1, Nat.reduceAdd, Nat.reduceMul, Nat.reduceSub, Nat.reduceLT, Nat.reduceLeDiff, Nat.reduceEqDiff, Nat.reduceBEq, Nat.reduceBNe, reduceIte, reduceCtorEq, Int.reduceToNat, Int.reduceLT, Int.reduceLE, Int.reduceEq, Int.reduceNe, Int.reduceNeg, ustrA, ti3, ti9, ti29, ti31, ca145, cf, Tryz.results145, he, enc_length, enc_take, sub_drop, frzL_enc, sub_closed, Option.map_some, encs_length]
          refine ⟨⟨by omega, by omega⟩, ?_⟩
          refine callE_intro (by simp only [zW, zX, zD, builtinA, isLeaf, const1, Nat.reduceAdd, Nat.reduceMul, Nat.reduceSub, Nat.reduceLT, Nat.reduceLeDiff, Nat.reduceEqDiff, Nat.reduceBEq, Nat.reduceBNe, reduceIte, reduceCtorEq, Int.reduceToNat, Int.reduceLT, Int.reduceLE, Int.reduceEq, Int.reduceNe, Int.reduceNeg, ustrA, enc_length, enc_take, sub_drop, frzL_enc, sub_closed, Option.map_some] <;> rfl) (ih _ hmm (hok _ hmm) _) ?_ rfl rfl
          simp only [zW, zX, zD, builtinA, isLeaf, const1, Nat.reduceAdd, Nat.reduceMul, Nat.reduceSub, Nat.reduceLT, Nat.reduceLeDiff, Nat.reduceEqDiff, Nat.reduceBEq, Nat.reduceBNe, reduceIte, reduceCtorEq, Int.reduceToNat, Int.reduceLT, Int.reduceLE, Int.reduceEq, Int.reduceNe, Int.reduceNeg, ustrA, ti3, ti9, ti29, ti31, ca145, cf, Tryz.results145, he, enc_length, enc_take, sub_drop, frzL_enc, sub_closed, Option.map_some, encs_length]
          have hsn : [enc (ks.getD 0 ty0)] = encs (ks.take 1) := by
            match ks, hi2 with
            | t :: l, _ => simp [encs]
          simp only [zW, zX, zD, builtinA, isLeaf, const1, Nat.reduceAdd, Nat.reduceMul, Nat.reduceSub, Nat.reduceLT, Nat.reduceLeDiff, Nat.reduceEqDiff, Nat.reduceBEq, Nat.reduceBNe, reduceIte, reduceCtorEq, Int.reduceToNat, Int.reduceLT, Int.reduceLE, Int.reduceEq, Int.reduceNe, Int.reduceNeg, ustrA, ti3, ti9, ti29, ti31, ca145, cf, Tryz.results145, hi1, LoopK_eq]
          refine ⟨fun v hv => enc_leaf _ v hv, fun r hr => by rw [List.mem_singleton.1 hr, enc_length], ⟨0 + 1, [.row 4 [enc (ks.getD 0 ty0)] 0, .row 4 [enc (ks.getD 0 ty0)] 0], _, by omega, rfl, rfl, .inr ⟨1, rfl, by simp, by rw [hsn]; rfl⟩⟩, ?_⟩
          simp only [intOf]
          omega
        · have hsn : encs (ks.take i) ++ [enc (ks.getD i ty0)] = encs (ks.take (i + 1)) := by
            rw [encs_map, encs_map, List.take_add_one, List.map_append]
            simp [List.getD, hi2]
          simp only [wpc_skip, AThen_normal, wpc_block, wpc_seq, wpc_drawn]
          refine .inr (drawE_intro [(false, 0, 2), (false, 0, 2), (false, 0, 0), (false, 0, 0), (false, 0, 0), (false, 0, 0), (false, 0, 0), (true, 0, 0), (true, 1, 1), (true, 2, 2), (false, 3, 3), (true, 3, 3)] [A ++ (.cells [.int .i64 k, .str m, .str n, .slice (encs ks)] :: .cells [.int .i64 0, .str [], .str [], .nils] :: .cells [.int .i64 k, .str m, .str n, .own (A.length + (j + 3))] :: B), A ++ (.cells [.int .i64 k, .str m, .str n, .slice (encs ks)] :: .cells [.int .i64 0, .str [], .str [], .nils] :: .cells [.int .i64 k, .str m, .str n, .own (A.length + (j + 3))] :: B), A ++ (.cells [.int .i64 k, .str m, .str n, .slice (encs ks)] :: .cells [.int .i64 0, .str [], .str [], .nils] :: .cells [.int .i64 k, .str m, .str n, .own (A.length + (j + 3))] :: (B ++ [.row 4 [enc (ks.getD i ty0)] 0])), A ++ (.cells [.int .i64 k, .str m, .str n, .slice (encs ks)] :: .cells [.int .i64 0, .str [], .str [], .nils] :: .cells [.int .i64 k, .str m, .str n, .own (A.length + (j + 3))] :: (B.set j .dead ++ [.row 4 [enc (ks.getD i ty0)] 0, .row 4 (encs (ks.take i) ++ [enc (ks.getD i ty0)]) 0])), A ++ (.cells [.int .i64 k, .str m, .str n, .slice (encs ks)] :: .cells [.int .i64 0, .str [], .str [], .nils] :: .cells [.int .i64 k, .str m, .str n, .own (A.length + (B.length + 1 + 3))] :: (B.set j .dead ++ [.row 4 [enc (ks.getD i ty0)] 0, .row 4 (encs (ks.take i) ++ [enc (ks.getD i ty0)]) 0]))] 4 rfl (by kernel_rfl) (by kernel_rfl) (by kernel_rfl) (by kernel_rfl) (by kernel_rfl) (by kernel_rfl) ?_)
          simp only [zW, zX, zD, builtinA, isLeaf, const1, Nat.reduceAdd, Nat.reduceMul, Nat.reduceSub, Nat.reduceLT, Nat.reduceLeDiff, Nat.reduceEqDiff, Nat.reduceBEq, Nat.reduceBNe, reduceIte, reduceCtorEq, Int.reduceToNat, Int.reduceLT, Int.reduceLE, Int.reduceEq, Int.reduceNe, Int.reduceNeg, ustrA, ti3, ti9, ti29, ti31, ca145, cf, Tryz.results145, he, hj, hg, enc_length, enc_take, sub_drop, frzL_enc, sub_closed, Option.map_some, encs_length]
          refine ⟨⟨by omega, by omega⟩, ?_⟩
          refine callE_intro (by simp only [zW, zX, zD, builtinA, isLeaf, const1, Nat.reduceAdd, Nat.reduceMul, Nat.reduceSub, Nat.reduceLT, Nat.reduceLeDiff, Nat.reduceEqDiff, Nat.reduceBEq, Nat.reduceBNe, reduceIte, reduceCtorEq, Int.reduceToNat, Int.reduceLT, Int.reduceLE, Int.reduceEq, Int.reduceNe, Int.reduceNeg, ustrA, enc_length, enc_take, sub_drop, frzL_enc, sub_closed, Option.map_some] <;> rfl) (ih _ hmm (hok _ hmm) _) ?_ rfl rfl
          simp only [zW, zX, zD, builtinA, isLeaf, const1, Nat.reduceAdd, Nat.reduceMul, Nat.reduceSub, Nat.reduceLT, Nat.reduceLeDiff, Nat.reduceEqDiff, Nat.reduceBEq, Nat.reduceBNe, reduceIte, reduceCtorEq, Int.reduceToNat, Int.reduceLT, Int.reduceLE, Int.reduceEq, Int.reduceNe, Int.reduceNeg, ustrA, ti3, ti9, ti29, ti31, ca145, cf, Tryz.results145, he, hj, hg, enc_length, enc_take, sub_drop, frzL_enc, sub_closed, Option.map_some, encs_length]
          simp only [zW, zX, zD, builtinA, isLeaf, const1, Nat.reduceAdd, Nat.reduceMul, Nat.reduceSub, Nat.reduceLT, Nat.reduceLeDiff, Nat.reduceEqDiff, Nat.reduceBEq, Nat.reduceBNe, reduceIte, reduceCtorEq, Int.reduceToNat, Int.reduceLT, Int.reduceLE, Int.reduceEq, Int.reduceNe, Int.reduceNeg, ustrA, ti3, ti9, ti29, ti31, ca145, cf, Tryz.results145, hi1, LoopK_eq]
          refine ⟨fun v hv => enc_leaf _ v hv, ⟨fun r hr => by rw [List.mem_singleton.1 hr, enc_length], by rw [List.length_take]; omega⟩, ⟨i + 1, B.set j .dead ++ [.row 4 [enc (ks.getD i ty0)] 0, .row 4 (encs (ks.take i) ++ [enc (ks.getD i ty0)]) 0], _, by omega, rfl, rfl, .inr ⟨B.length + 1, rfl, by simp, ?_⟩⟩, ?_⟩
          · rw [getD_sapp, hsn]; rfl
          · simp only [intOf]
            omega
      · have : i = ks.length := by simp at h2; omega
        subst this
        rw [List.take_length] at hx
        rcases hx with ⟨h0, rfl, rfl⟩ | ⟨j, rfl, hj, hg⟩
        · have : ks = [] := by cases ks with
            | nil => rfl
            | cons => simp at h0
          subst this
          simp only [zW, zX, zD, builtinA, isLeaf, const1, Nat.reduceAdd, Nat.reduceMul, Nat.reduceSub, Nat.reduceLT, Nat.reduceLeDiff, Nat.reduceEqDiff, Nat.reduceBEq, Nat.reduceBNe, reduceIte, reduceCtorEq, Int.reduceToNat, Int.reduceLT, Int.reduceLE, Int.reduceEq, Int.reduceNe, Int.reduceNeg, ustrA, ti3, ti9, ti29, ti31, ca145, cf, Tryz.results145, encs]
        · simp only [zW, zX, zD, builtinA, isLeaf, const1, Nat.reduceAdd, Nat.reduceMul, Nat.reduceSub, Nat.reduceLT, Nat.reduceLeDiff, Nat.reduceEqDiff, Nat.reduceBEq, Nat.reduceBNe, reduceIte, reduceCtorEq, Int.reduceToNat, Int.reduceLT, Int.reduceLE, Int.reduceEq, Int.reduceNe, Int.reduceNeg, ustrA, ti3, ti9, ti29, ti31, ca145, cf, Tryz.results145, hg, hj]

set_option maxRecDepth 100000 in
theorem spec_l1Subst (bs : List BdI) (hl : bs.length ≤ 1048576) (hz : ∀ b ∈ bs, sz b.typ ≤ 1048576) (τ : Ty) (hτ : sz τ ≤ 1048576) : ∀ (A : List Box), ACalls Tryz.prog 94 [.agg (enc τ), .slice (bEs bs)] A (fun r A' => r = .agg (enc (subT bs τ)) ∧ A' = A) := by
  induction τ using Ty.ind with
  | h k m n ks ih =>
    intro A
    have hks : ks.length ≤ 1048576 := by rw [sz] at hτ; omega
    have hok : ∀ t ∈ ks, sz t ≤ 1048576 := fun t ht => by rw [sz] at hτ; have := szs_mem ht; omega
    by_cases hk3 : k = 3
    · have hL := spec_l1Look bs hl k m n ks
      have hC : ∀ A, ACalls Tryz.prog 145 [.agg (enc (lookT m n (.mk k m n ks) bs))] A (fun r A' => r = .agg (enc (lookT m n (.mk k m n ks) bs)) ∧ A' = A) := fun A => spec_l1Copy0 _ (lookT_sz bs hz m n _ hτ) A
      have hs3 : subT bs (.mk k m n ks) = lookT m n (.mk k m n ks) bs := by rw [subT, if_pos hk3]
      rw [hs3]
      generalize lookT m n (.mk k m n ks) bs = ρ at *
      rw [bT4 (.mk k m n ks)] at hL ⊢
      simp only [Ty.kind, Ty.mod, Ty.name, Ty.kids] at hL ⊢
      refine acalls_enter (cf := cf 43 [0, 1, 2, 4, 5, 7, 8, 11, 27]) foll Tryz.func94 Tryz.ntmps94 (by simp [cf]) ?_
      simp only [Tryz.f94, EnterK_some, zW, zX, zD, builtinA, isLeaf, const1, Nat.reduceAdd, Nat.reduceMul, Nat.reduceSub, Nat.reduceLT, Nat.reduceLeDiff, Nat.reduceEqDiff, Nat.reduceBEq, Nat.reduceBNe, reduceIte, reduceCtorEq, Int.reduceToNat, Int.reduceLT, Int.reduceLE, Int.reduceEq, Int.reduceNe, Int.reduceNeg, ustrA, ti3, ti29, ti31, ca94, ca145, ca146, cf, Tryz.results94]
      simp only [zW, zX, zD, builtinA, isLeaf, const1, Nat.reduceAdd, Nat.reduceMul, Nat.reduceSub, Nat.reduceLT, Nat.reduceLeDiff, Nat.reduceEqDiff, Nat.reduceBEq, Nat.reduceBNe, reduceIte, reduceCtorEq, Int.reduceToNat, Int.reduceLT, Int.reduceLE, Int.reduceEq, Int.reduceNe, Int.reduceNeg, ustrA, ti3, ti29, ti31, ca94, ca145, ca146, cf, Tryz.results94, decide_eq_true hk3]
      refine callK_intro (by simp only [zW, zX, zD, builtinA, isLeaf, const1, Nat.reduceAdd, Nat.reduceMul, Nat.reduceSub, Nat.reduceLT, Nat.reduceLeDiff, Nat.reduceEqDiff, Nat.reduceBEq, Nat.reduceBNe, reduceIte, reduceCtorEq, Int.reduceToNat, Int.reduceLT, Int.reduceLE, Int.reduceEq, Int.reduceNe, Int.reduceNeg, ustrA, Option.map_some]; rfl) (hL _) ?_ rfl
      rintro r A' ⟨⟨b, rfl⟩, rfl⟩
      simp only [zW, zX, zD, builtinA, isLeaf, const1, Nat.reduceAdd, Nat.reduceMul, Nat.reduceSub, Nat.reduceLT, Nat.reduceLeDiff, Nat.reduceEqDiff, Nat.reduceBEq, Nat.reduceBNe, reduceIte, reduceCtorEq, Int.reduceToNat, Int.reduceLT, Int.reduceLE, Int.reduceEq, Int.reduceNe, Int.reduceNeg, ustrA, ti3, ti29, ti31, ca94, ca145, ca146, cf, Tryz.results94, enc_length, enc_take, sub_drop, frzL_enc, sub_closed, Option.map_some]
      refine callK_intro (by simp only [zW, zX, zD, builtinA, isLeaf, const1, Nat.reduceAdd, Nat.reduceMul, Nat.reduceSub, Nat.reduceLT, Nat.reduceLeDiff, Nat.reduceEqDiff, Nat.reduceBEq, Nat.reduceBNe, reduceIte, reduceCtorEq, Int.reduceToNat, Int.reduceLT, Int.reduceLE, Int.reduceEq, Int.reduceNe, Int.reduceNeg, ustrA, enc_length, enc_take, sub_drop, frzL_enc, sub_closed, Option.map_some]; rfl) (hC _) ?_ rfl; rintro v A' ⟨rfl, rfl⟩
      simp only [zW, zX, zD, builtinA, isLeaf, const1, Nat.reduceAdd, Nat.reduceMul, Nat.reduceSub, Nat.reduceLT, Nat.reduceLeDiff, Nat.reduceEqDiff, Nat.reduceBEq, Nat.reduceBNe, reduceIte, reduceCtorEq, Int.reduceToNat, Int.reduceLT, Int.reduceLE, Int.reduceEq, Int.reduceNe, Int.reduceNeg, ustrA, ti3, ti29, ti31, ca94, ca145, ca146, cf, Tryz.results94, enc_length, enc_take, sub_drop, frzL_enc, sub_closed, Option.map_some]
    have hs3 : subT bs (.mk k m n ks) = .mk k [] [] (ks.map (subT bs)) := by rw [subT, if_neg hk3, subTs_map]
    rw [hs3]
    rw [enc, enc]
    refine acalls_enter (cf := cf 43 [0, 1, 2, 4, 5, 7, 8, 11, 27]) foll Tryz.func94 Tryz.ntmps94 (by simp [cf]) ?_
    simp only [Tryz.f94, EnterK_some, zW, zX, zD, builtinA, isLeaf, const1, Nat.reduceAdd, Nat.reduceMul, Nat.reduceSub, Nat.reduceLT, Nat.reduceLeDiff, Nat.reduceEqDiff, Nat.reduceBEq, Nat.reduceBNe, reduceIte, reduceCtorEq, Int.reduceToNat, Int.reduceLT, Int.reduceLE, Int.reduceEq, Int.reduceNe, Int.reduceNeg, ustrA, ti3, ti29, ti31, ca94, ca145, ca146, cf, Tryz.results94]
    simp only [zW, zX, zD, builtinA, isLeaf, const1, Nat.reduceAdd, Nat.reduceMul, Nat.reduceSub, Nat.reduceLT, Nat.reduceLeDiff, Nat.reduceEqDiff, Nat.reduceBEq, Nat.reduceBNe, reduceIte, reduceCtorEq, Int.reduceToNat, Int.reduceLT, Int.reduceLE, Int.reduceEq, Int.reduceNe, Int.reduceNeg, ustrA, ti3, ti29, ti31, ca94, ca145, ca146, cf, Tryz.results94, decide_eq_false hk3]
    refine aloop_intro [1, 2, 4, 7, 8] (fun e A' => ∃ i B x, i ≤ ks.length ∧ e = [(1, .slice (bEs bs)), (2, .ptr A.length 0), (4, .ptr (A.length + 1) 0), (7, .ptr (A.length + 2) 0), (8, .int .i64 i)] ∧ A' = A ++ (.cells [.int .i64 k, .str m, .str n, .slice (encs ks)] :: .cells [.int .i64 0, .str [], .str [], .nils] :: .cells [.int .i64 k, .str [], .str [], x] :: B) ∧
      ((i = 0 ∧ x = .nils ∧ B = []) ∨ (∃ j, x = .own (A.length + (j + 3)) ∧ j < B.length ∧ B.getD j .dead = .row 4 (encs ((ks.take i).map (subT bs))) 0))) (fun e _ => ks.length - (intOf (Abs.look 8 e)).toNat) ?_ ?_
    · simp only [zW, zX, zD, builtinA, isLeaf, const1, Nat.reduceAdd, Nat.reduceMul, Nat.reduceSub, Nat.reduceLT, Nat.reduceLeDiff, Nat.reduceEqDiff, Nat.reduceBEq, Nat.reduceBNe, reduceIte, reduceCtorEq, Int.reduceToNat, Int.reduceLT, Int.reduceLE, Int.reduceEq, Int.reduceNe, Int.reduceNeg, ustrA, ti3, ti29, ti31, ca94, ca145, ca146, cf, Tryz.results94]
      exact ⟨0, [], .nils, by omega, rfl, rfl, .inl ⟨rfl, rfl, rfl⟩⟩
    · rintro e A' ⟨i, B, x, hi, rfl, rfl, hx⟩
      simp only [zW, zX, zD, builtinA, isLeaf, const1, Nat.reduceAdd, Nat.reduceMul, Nat.reduceSub, Nat.reduceLT, Nat.reduceLeDiff, Nat.reduceEqDiff, Nat.reduceBEq, Nat.reduceBNe, reduceIte, reduceCtorEq, Int.reduceToNat, Int.reduceLT, Int.reduceLE, Int.reduceEq, Int.reduceNe, Int.reduceNeg, ustrA, ti3, ti29, ti31, ca94, ca145, ca146, cf, Tryz.results94, encs_length]
      refine condK_intro (fun h2 => ?_) (fun h2 => ?_)
      · have hi2 : i < ks.length := by simpa using h2
        have he := encs_getD hi2
        have hmm := getD_mem hi2
        have hi1 : IntKind.i64.wrap ((i : Int) + 1) = ((i + 1 : Nat) : Int) := by rw [wrap64 (by omega) (by omega)]; rfl
        rcases hx with ⟨rfl, rfl, rfl⟩ | ⟨j, rfl, hj, hg⟩
        · simp only [wpc_skip, AThen_normal, wpc_block, wpc_seq, wpc_drawn]
          refine .inr (drawE_intro [(false, 0, 2), (false, 0, 2), (false, 0, 0), (false, 0, 0), (false, 0, 0), (false, 0, 0), (false, 0, 0), (false, 0, 0), (true, 0, 0), (true, 1, 1), (true, 2, 2), (false, 3, 3), (true, 3, 3)] [A ++ [.cells [.int .i64 k, .str m, .str n, .slice (encs ks)], .cells [.int .i64 0, .str [], .str [], .nils], .cells [.int .i64 k, .str [], .str [], .nils]], A ++ [.cells [.int .i64 k, .str m, .str n, .slice (encs ks)], .cells [.int .i64 0, .str [], .str [], .nils], .cells [.int .i64 k, .str [], .str [], .nils]], A ++ [.cells [.int .i64 k, .str m, .str n, .slice (encs ks)], .cells [.int .i64 0, .str [], .str [], .nils], .cells [.int .i64 k, .str [], .str [], .nils], .row 4 [enc (subT bs (ks.getD 0 ty0))] 0], A ++ [.cells [.int .i64 k, .str m, .str n, .slice (encs ks)], .cells [.int .i64 0, .str [], .str [], .nils], .cells [.int .i64 k, .str [], .str [], .nils], .row 4 [enc (subT bs (ks.getD 0 ty0))] 0, .row 4 [enc (subT bs (ks.getD 0 ty0))] 0], A ++ [.cells [.int .i64 k, .str m, .str n, .slice (encs ks)], .cells [.int .i64 0, .str [], .str [], .nils], .cells [.int .i64 k, .str [], .str [], .own (A.length + 4)], .row 4 [enc (subT bs (ks.getD 0 ty0))] 0, .row 4 [enc (subT bs (ks.getD 0 ty0))] 0]] 4 rfl (by kernel_rfl) (by kernel_rfl) (by kernel_rfl) (by kernel_rfl) (by kernel_rfl) (by kernel_rfl) ?_)
          simp only [zW, zX, zD, builtinA, isLeaf, const1, Nat.reduceAdd, Nat.reduceMul, Nat.reduceSub, Nat.reduceLT, Nat.reduceLeDiff, Nat.reduceEqDiff, Nat.reduceBEq, Nat.reduceBNe, reduceIte, reduceCtorEq, Int.reduceToNat, Int.reduceLT, Int.reduceLE, Int.reduceEq, Int.reduceNe, Int.reduceNeg, ustrA, ti3, ti29, ti31, ca94, ca145, ca146, cf, Tryz.results94, he, enc_length, enc_take, sub_drop, frzL_enc, sub_closed, Option.map_some, encs_length]
          refine ⟨⟨by omega, by omega⟩, ?_⟩
          refine callE_intro (by simp only [zW, zX, zD, builtinA, isLeaf, const1, Nat.reduceAdd, Nat.reduceMul, Nat.reduceSub, Nat.reduceLT, Nat.reduceLeDiff, Nat.reduceEqDiff, Nat.reduceBEq, Nat.reduceBNe, reduceIte, reduceCtorEq, Int.reduceToNat, Int.reduceLT, Int.reduceLE, Int.reduceEq, Int.reduceNe, Int.reduceNeg, ustrA, enc_length, enc_take, sub_drop, frzL_enc, sub_closed, Option.map_some] <;> rfl) (ih _ hmm (hok _ hmm) _) ?_ rfl rfl
          simp only [zW, zX, zD, builtinA, isLeaf, const1, Nat.reduceAdd, Nat.reduceMul, Nat.reduceSub, Nat.reduceLT, Nat.reduceLeDiff, Nat.reduceEqDiff, Nat.reduceBEq, Nat.reduceBNe, reduceIte, reduceCtorEq, Int.reduceToNat, Int.reduceLT, Int.reduceLE, Int.reduceEq, Int.reduceNe, Int.reduceNeg, ustrA, ti3, ti29, ti31, ca94, ca145, ca146, cf, Tryz.results94, he, enc_length, enc_take, sub_drop, frzL_enc, sub_closed, Option.map_some, encs_length]
          have hsn : [enc (subT bs (ks.getD 0 ty0))] = encs ((ks.take 1).map (subT bs)) := by
            match ks, hi2 with
            | t :: l, _ => simp [encs]
          simp only [zW, zX, zD, builtinA, isLeaf, const1, Nat.reduceAdd, Nat.reduceMul, Nat.reduceSub, Nat.reduceLT, Nat.reduceLeDiff, Nat.reduceEqDiff, Nat.reduceBEq, Nat.reduceBNe, reduceIte, reduceCtorEq, Int.reduceToNat, Int.reduceLT, Int.reduceLE, Int.reduceEq, Int.reduceNe, Int.reduceNeg, ustrA, ti3, ti29, ti31, ca94, ca145, ca146, cf, Tryz.results94, hi1, LoopK_eq]
          refine ⟨fun v hv => enc_leaf _ v hv, fun r hr => by rw [List.mem_singleton.1 hr, enc_length], ⟨0 + 1, [.row 4 [enc (subT bs (ks.getD 0 ty0))] 0, .row 4 [enc (subT bs (ks.getD 0 ty0))] 0], _, by omega, rfl, rfl, .inr ⟨1, rfl, by simp, by rw [hsn]; rfl⟩⟩, ?_⟩
          simp only [intOf]
          omega
        · have hsn : encs ((ks.take i).map (subT bs)) ++ [enc (subT bs (ks.getD i ty0))] = encs ((ks.take (i + 1)).map (subT bs)) := by
            rw [encs_map, encs_map, List.take_add_one, List.map_append, List.map_append]
            simp [List.getD, hi2]
          simp only [wpc_skip, AThen_normal, wpc_block, wpc_seq, wpc_drawn]
          refine .inr (drawE_intro [(false, 0, 2), (false, 0, 2), (false, 0, 0), (false, 0, 0), (false, 0, 0), (false, 0, 0), (false, 0, 0), (false, 0, 0), (true, 0, 0), (true, 1, 1), (true, 2, 2), (false, 3, 3), (true, 3, 3)] [A ++ (.cells [.int .i64 k, .str m, .str n, .slice (encs ks)] :: .cells [.int .i64 0, .str [], .str [], .nils] :: .cells [.int .i64 k, .str [], .str [], .own (A.length + (j + 3))] :: B), A ++ (.cells [.int .i64 k, .str m, .str n, .slice (encs ks)] :: .cells [.int .i64 0, .str [], .str [], .nils] :: .cells [.int .i64 k, .str [], .str [], .own (A.length + (j + 3))] :: B), A ++ (.cells [.int .i64 k, .str m, .str n, .slice (encs ks)] :: .cells [.int .i64 0, .str [], .str [], .nils] :: .cells [.int .i64 k, .str [], .str [], .own (A.length + (j + 3))] :: (B ++ [.row 4 [enc (subT bs (ks.getD i ty0))] 0])), A ++ (.cells [.int .i64 k, .str m, .str n, .slice (encs ks)] :: .cells [.int .i64 0, .str [], .str [], .nils] :: .cells [.int .i64 k, .str [], .str [], .own (A.length + (j + 3))] :: (B.set j .dead ++ [.row 4 [enc (subT bs (ks.getD i ty0))] 0, .row 4 (encs ((ks.take i).map (subT bs)) ++ [enc (subT bs (ks.getD i ty0))]) 0])), A ++ (.cells [.int .i64 k, .str m, .str n, .slice (encs ks)] :: .cells [.int .i64 0, .str [], .str [], .nils] :: .cells [.int .i64 k, .str [], .str [], .own (A.length + (B.length + 1 + 3))] :: (B.set j .dead ++ [.row 4 [enc (subT bs (ks.getD i ty0))] 0, .row 4 (encs ((ks.take i).map (subT bs)) ++ [enc (subT bs (ks.getD i ty0))]) 0]))] 4 rfl (by kernel_rfl) (by kernel_rfl) (by kernel_rfl) (by kernel_rfl) (by kernel_rfl) (by kernel_rfl) ?_)
          simp only [zW, zX, zD, builtinA, isLeaf, const1, Nat.reduceAdd, Nat.reduceMul, Nat.reduceSub, Nat.reduceLT, Nat.reduceLeDiff, Nat.reduceEqDiff, Nat.reduceBEq, Nat.reduceBNe, reduceIte, reduceCtorEq, Int.reduceToNat, Int.reduceLT, Int.reduceLE, Int.reduceEq, Int.reduceNe, Int.reduceNeg, ustrA, ti3, ti29, ti31, ca94, ca145, ca146, cf, Tryz.results94, he, hj, hg, enc_length, enc_take, sub_drop, frzL_enc, sub_closed, Option.map_some, encs_length]
          refine ⟨⟨by omega, by omega⟩, ?_⟩
          refine callE_intro (by simp only [zW, zX, zD, builtinA, isLeaf, const1, Nat.reduceAdd, Nat.reduceMul, Nat.reduceSub, Nat.reduceLT, Nat.reduceLeDiff, Nat.reduceEqDiff, Nat.reduceBEq, Nat.reduceBNe, reduceIte, reduceCtorEq, Int.reduceToNat, Int.reduceLT, Int.reduceLE, Int.reduceEq, Int.reduceNe, Int.reduceNeg, ustrA, enc_length, enc_take, sub_drop, frzL_enc, sub_closed, Option.map_some] <;> rfl) (ih _ hmm (hok _ hmm) _) ?_ rfl rfl
          simp only [zW, zX, zD, builtinA, isLeaf, const1, Nat.reduceAdd, Nat.reduceMul, Nat.reduceSub, Nat.reduceLT, Nat.reduceLeDiff, Nat.reduceEqDiff, Nat.reduceBEq, Nat.reduceBNe, reduceIte, reduceCtorEq, Int.reduceToNat, Int.reduceLT, Int.reduceLE, Int.reduceEq, Int.reduceNe, Int.reduceNeg, ustrA, ti3, ti29, ti31, ca94, ca145, ca146, cf, Tryz.results94, he, hj, hg, enc_length, enc_take, sub_drop, frzL_enc, sub_closed, Option.map_some, encs_length]
          simp only [zW, zX, zD, builtinA, isLeaf, const1, Nat.reduceAdd, Nat.reduceMul, Nat.reduceSub, Nat.reduceLT, Nat.reduceLeDiff, Nat.reduceEqDiff, Nat.reduceBEq, Nat.reduceBNe, reduceIte, reduceCtorEq, Int.reduceToNat, Int.reduceLT, Int.reduceLE, Int.reduceEq, Int.reduceNe, Int.reduceNeg, ustrA, ti3, ti29, ti31, ca94, ca145, ca146, cf, Tryz.results94, hi1, LoopK_eq]
          refine ⟨fun v hv => enc_leaf _ v hv, ⟨fun r hr => by rw [List.mem_singleton.1 hr, enc_length], by rw [List.length_map, List.length_take]; omega⟩, ⟨i + 1, B.set j .dead ++ [.row 4 [enc (subT bs (ks.getD i ty0))] 0, .row 4 (encs ((ks.take i).map (subT bs)) ++ [enc (subT bs (ks.getD i ty0))]) 0], _, by omega, rfl, rfl, .inr ⟨B.length + 1, rfl, by simp, ?_⟩⟩, ?_⟩
          · rw [getD_sapp, hsn]; rfl
          · simp only [intOf]
            omega
      · have : i = ks.length := by simp at h2; omega
        subst this
        rw [List.take_length] at hx
        rcases hx with ⟨h0, rfl, rfl⟩ | ⟨j, rfl, hj, hg⟩
        · have : ks = [] := by cases ks with
            | nil => rfl
            | cons => simp at h0
          subst this
          simp only [zW, zX, zD, builtinA, isLeaf, const1, Nat.reduceAdd, Nat.reduceMul, Nat.reduceSub, Nat.reduceLT, Nat.reduceLeDiff, Nat.reduceEqDiff, Nat.reduceBEq, Nat.reduceBNe, reduceIte, reduceCtorEq, Int.reduceToNat, Int.reduceLT, Int.reduceLE, Int.reduceEq, Int.reduceNe, Int.reduceNeg, ustrA, ti3, ti29, ti31, ca94, ca145, ca146, cf, Tryz.results94, encs]
        · simp only [zW, zX, zD, builtinA, isLeaf, const1, Nat.reduceAdd, Nat.reduceMul, Nat.reduceSub, Nat.reduceLT, Nat.reduceLeDiff, Nat.reduceEqDiff, Nat.reduceBEq, Nat.reduceBNe, reduceIte, reduceCtorEq, Int.reduceToNat, Int.reduceLT, Int.reduceLE, Int.reduceEq, Int.reduceNe, Int.reduceNeg, ustrA, ti3, ti29, ti31, ca94, ca145, ca146, cf, Tryz.results94, hg, hj]

end Go.Proofs.YtpoknljchikklaaGreat

namespace Go.Proofs.YtpoknljchikklaaGreat
open Go.Abs

theorem toTy_injS : ∀ {v v' : VT}, toTy v = toTy v' → v = v'
  | .num, .num, _ => rfl
  | .num, .nm _ _, h => by simp [toTy] at h
  | .num, .fn _ _, h => by simp [toTy] at h
  | .nm _ _, .num, h => by simp [toTy] at h
  | .nm _ _, .fn _ _, h => by simp [toTy] at h
  | .fn _ _, .num, h => by simp [toTy] at h
  | .fn _ _, .nm _ _, h => by simp [toTy] at h
  | .nm m n, .nm m' n', h => by simp [toTy] at h; rw [h.1, h.2]
  | .fn a b, .fn a' b', h => by
    simp [toTy] at h
    rw [toTy_injS h.1, toTy_injS h.2]
theorem validB_sub {w : VT} (h : okV w = true) : validB (toTy w) = (decide (dep w ≤ 8) && decide (cnt w ≤ 63)) := by
  rw [Bool.eq_iff_iff]
  simp only [Bool.and_eq_true, decide_eq_true_eq]
  constructor
  · intro hv
    obtain ⟨v, e, hv⟩ := validB_of hv
    rw [toTy_injS e]
    exact ⟨hv.dep, hv.cnt⟩
  · exact fun hd => validB_toTy ⟨h, hd.1, hd.2⟩
theorem lookB_add (p q : BNm) (v : VT) (m : List (BNm × VT)) : lookB p (addB m q v) = (lookB p m).or (if p = q then some v else none) := by
  have happ : ∀ m : List (BNm × VT), lookB p (m ++ [(q, v)]) = (lookB p m).or (if p = q then some v else none) := by
    intro m
    induction m with
    | nil => simp [lookB]
    | cons x m ih =>
      obtain ⟨r, w⟩ := x
      simp only [List.cons_append, lookB]
      by_cases e : p = r
      · simp [e]
      · simp [e, ih]
  unfold addB
  rcases hl : lookB q m with _ | w
  · exact happ m
  · by_cases e : p = q
    · subst e; simp [hl]
    · simp [e]
theorem lookB_fold (p : BNm) : ∀ (l m : List (BNm × VT)), lookB p (l.foldl (fun m q => addB m q.1 q.2) m) = (lookB p m).or (lookB p l)
  | [], m => by simp [lookB]
  | (q, v) :: l, m => by
    rw [List.foldl_cons, lookB_fold p l, lookB_add]
    simp only [lookB]
    by_cases e : p = q
    · subst e; simp
    · simp [e]
theorem lookB_foldB (p : BNm) (bd : List (BNm × VT)) : lookB p (foldB bd) = lookB p bd := by
  rw [foldB, lookB_fold]; simp [lookB]
theorem lookT_eq (m n : List UInt8) (t : Ty) : ∀ bd : List (BNm × VT), lookT m n t (bd.map ofB) = ((lookB (m, n) bd).map toTy).getD t
  | [] => rfl
  | ((a, b), v) :: bd => by
    simp only [List.map_cons, lookT, lookB, ofB]
    by_cases h : a = m ∧ b = n
    · obtain ⟨rfl, rfl⟩ := h; simp
    · have h2 : ¬ (m, n) = (a, b) := fun e => h (by cases e; exact ⟨rfl, rfl⟩)
      rw [if_neg h, if_neg h2]
      exact lookT_eq m n t bd
theorem subT_eq (bd : List (BNm × VT)) : ∀ v, subT (bd.map ofB) (toTy v) = toTy (subV (foldB bd) v)
  | .num => by simp [toTy, subT, subTs, subV]
  | .nm m n => by
    simp only [toTy, subT, if_true, subV, lookB_foldB, lookT_eq]
    cases lookB (m, n) bd <;> simp [toTy]
  | .fn a b => by simp [toTy, subT, subTs, subV, subT_eq bd a, subT_eq bd b]
theorem sz_toTyS : ∀ v, okV v = true → sz (toTy v) ≤ 2 * cnt v
  | .num, _ => by simp [toTy, sz, szs, cnt]
  | .nm m n, h => by
    simp only [okV, nmB, Bool.and_eq_true, Bool.or_eq_true, decide_eq_true_eq] at h
    have h1 : n.length = 1 := by have := h.2; simp only [localB, Bool.and_eq_true, beq_iff_eq] at this; exact this.1
    have h2 : m.length ≤ 1 := by
      rcases h.1 with rfl | h
      · simp
      · simp only [moduleB, Bool.and_eq_true, beq_iff_eq] at h; omega
    simp only [toTy, sz, szs, cnt, List.length_nil]; omega
  | .fn a b, h => by
    simp only [okV, Bool.and_eq_true] at h
    have ha := sz_toTyS a h.1
    have hb := sz_toTyS b h.2
    simp only [toTy, sz, szs, cnt, List.length_nil, List.length_cons]; omega
set_option maxRecDepth 100000 in
theorem spec_l1Name0 (m n : List UInt8) (A : List Box) : ACalls Tryz.prog 116 [.str m, .str n] A (fun r A' => r = .agg (enc (.mk 3 m n [])) ∧ A' = A) := by
  rw [enc, encs]
  refine acalls_enter (cf := cf 8 [0, 1, 4]) foll Tryz.func116 Tryz.ntmps116 (by simp [cf]) ?_
  simp only [Tryz.f116, EnterK_some, zW, zX, zD, builtinA, isLeaf, const1, Nat.reduceAdd, Nat.reduceMul, Nat.reduceSub, Nat.reduceLT, Nat.reduceLeDiff, Nat.reduceEqDiff, Nat.reduceBEq, Nat.reduceBNe, reduceIte, reduceCtorEq, Int.reduceToNat, Int.reduceLT, Int.reduceLE, Int.reduceEq, Int.reduceNe, Int.reduceNeg, ustrA, ti31, cf, Tryz.results116]


theorem ok_toTyS : ∀ v, okV v = true → (toTy v).Ok
  | .num, _ => .mk (by simp) (by simp) (by simp) (by simp)
  | .nm m n, h => by
    simp only [okV, nmB, Bool.and_eq_true, Bool.or_eq_true, decide_eq_true_eq] at h
    have h1 : n.length = 1 := by have := h.2; simp only [localB, Bool.and_eq_true, beq_iff_eq] at this; exact this.1
    have h2 : m.length ≤ 1 := by
      rcases h.1 with rfl | h
      · simp
      · simp only [moduleB, Bool.and_eq_true, beq_iff_eq] at h; omega
    exact .mk (by omega) (by omega) (by simp) (by simp)
  | .fn a b, h => by
    simp [okV] at h
    refine .mk (by simp) (by simp) (by simp) fun t ht => ?_
    simp at ht
    rcases ht with rfl | rfl
    · exact ok_toTyS a h.1
    · exact ok_toTyS b h.2

def oTyS : Option VT → Ty
  | none => ty0
  | some v => toTy v


end Go.Proofs.YtpoknljchikklaaGreat

/- What a name of a signature stands for is one thing only. -/
set_option linter.unusedVariables false
set_option linter.unusedSimpArgs false
namespace Go.Proofs.YtpoknljchikklaaGreat
open Go.Abs

theorem itemOf_one {x : SigI} {y y' : VI} (h : ItemOf x y) (h' : ItemOf x y') : y = y' := by
  cases y <;> cases y' <;> simp only [ItemOf] at h h'
  all_goals first
    | (exfalso; have := h.2.1; have := h'.2.1; omega)
    | (rw [← h.1, ← h'.1, toTy_injS (h.2.2.1.symm.trans h'.2.2.1)]; done)
    | (rw [← h.1, ← h'.1]; done)
theorem itemOf_yes {x : SigI} {y : VI} (hl : localB x.name = true) (h : ItemOf x y) : itemOk x = true := by
  cases y <;> simp only [ItemOf] at h
  · simp [itemOk, hl, h.2.1, h.2.2]
  · simp [itemOk, hl, h.2.1, h.2.2.1, validB_toTy h.2.2.2]
  · simp [itemOk, hl, h.2.1, h.2.2.1, validB_toTy h.2.2.2]
theorem vi_ext {ys zs : List VI} (hl : ys.length = zs.length) (h : ∀ i, i < ys.length → ys.getD i vi0 = zs.getD i vi0) : ys = zs := by
  refine List.ext_getElem hl fun i h1 h2 => ?_
  have := h i h1
  simpa [List.getD, h1, h2] using this
theorem readsTo_one {s : List SigI} {ys zs : List VI} (h : ReadsTo s ys) (h' : ReadsTo s zs) : ys = zs :=
  vi_ext (h.1.trans h'.1.symm) fun i hi => itemOf_one (h.2 i (h.1 ▸ hi)).2 (h'.2 i (h.1 ▸ hi)).2
theorem readsTo_not {s : List SigI} {ys : List VI} (h : ReadsTo s ys) : ¬ ∃ x ∈ s, itemOk x = false := by
  rintro ⟨x, hx, hf⟩
  obtain ⟨i, hi, rfl⟩ := List.mem_iff_getElem.1 hx
  have := h.2 i hi
  have e : s.getD i si0 = s[i] := by simp [List.getD, hi]
  rw [e] at this
  rw [itemOf_yes this.1 this.2] at hf
  cases hf
theorem rdN_one {s : List SigI} {zs zs' : List VI} (h : RdN s (some zs)) (h' : RdN s (some zs')) : zs = zs' := by
  obtain ⟨ys, _, hr, _, hn⟩ := h
  obtain ⟨ys', _, hr', _, hn'⟩ := h'
  rw [readsTo_one hr hr', hn'] at hn
  exact (Option.some.inj hn).symm
theorem rdN_not {s : List SigI} {zs : List VI} (h : RdN s (some zs)) : ¬ RdN s none := by
  obtain ⟨ys, h8, hr, ho, hn⟩ := h
  rintro ((h | h) | ⟨ys', _, hr', h | h⟩)
  · omega
  · exact readsTo_not hr h
  · rw [readsTo_one hr' hr, ho] at h; cases h
  · rw [readsTo_one hr' hr, hn] at h; cases h
theorem ordB_ne {ys : List VI} (h : ordB ys = true) {i j : Nat} (hij : i < j) (hj : j < ys.length) : viK (ys.getD i vi0) ≠ viK (ys.getD j vi0) := by
  intro e
  have hs : stepB (ys.take j) (ys.getD j vi0) = true := by
    unfold ordB at h
    rw [List.all_eq_true] at h
    exact h j (List.mem_range.mpr hj)
  simp only [stepB, Bool.and_eq_true, Bool.not_eq_true', decide_eq_false_iff_not] at hs
  refine hs.2 (List.mem_map.2 ⟨ys.getD i vi0, ?_, e⟩)
  rw [List.mem_take_iff_getElem]
  exact ⟨i, by omega, by simp [List.getD, show i < ys.length by omega]⟩
theorem ordB_inj {ys : List VI} (h : ordB ys = true) {i j : Nat} (hi : i < ys.length) (hj : j < ys.length) (e : viK (ys.getD i vi0) = viK (ys.getD j vi0)) : i = j := by
  rcases Nat.lt_trichotomy i j with hl | hl | hl
  · exact absurd e (ordB_ne h hl hj)
  · exact hl
  · exact absurd e.symm (ordB_ne h hl hi)
theorem normL_keys : ∀ {ys zs : List VI} {m : List (BNm × VT)}, normL m ys = some zs → zs.map viK = ys.map viK
  | [], zs, m, h => by cases h; rfl
  | y :: ys, zs, m, h => by
    rw [normL] at h
    split at h
    · obtain ⟨x, hx, rfl⟩ := Option.map_eq_some_iff.1 h
      simp [normL_keys hx, viK_sub]
    · cases h
theorem keys_getD {ys zs : List VI} (h : zs.map viK = ys.map viK) {i : Nat} (hi : i < zs.length) : viK (zs.getD i vi0) = viK (ys.getD i vi0) := by
  have hl : zs.length = ys.length := by simpa using congrArg List.length h
  have := congrArg (fun l => l[i]?) h
  simpa [List.getD, hi, hl ▸ hi] using this
theorem findO_one {s : List SigI} {zs : List VI} (h : RdN s (some zs)) {q : Ky} {o o' : Option VT} (h1 : FindO zs q o) (h2 : FindO zs q o') : o = o' := by
  obtain ⟨ys, _, hr, ho, hn⟩ := h
  have hk := normL_keys hn
  have hl := normL_len hn
  cases o with
  | none =>
    cases o' with
    | none => rfl
    | some v => obtain ⟨i, hi, hq, _⟩ := h2; exact absurd hq (h1 i hi)
  | some v =>
    obtain ⟨i, hi, hq, hv⟩ := h1
    cases o' with
    | none => exact absurd hq (h2 i hi)
    | some w =>
      obtain ⟨j, hj, hq2, hw⟩ := h2
      have e : i = j := ordB_inj ho (by omega) (by omega) (by rw [← keys_getD hk hi, ← keys_getD hk hj, hq, hq2])
      rw [← hv, ← hw, e]
/-- one answer only -/
theorem meanIs_one {s : List SigI} {q : Ky} {o o' : Option VT} (h : MeanIs s q o) (h' : MeanIs s q o') : o = o' := by
  rcases h with ⟨zs, hr, hf⟩ | ⟨hr, rfl⟩
  · rcases h' with ⟨zs', hr', hf'⟩ | ⟨hr', rfl⟩
    · rw [← rdN_one hr hr'] at hf'
      exact findO_one hr hf hf'
    · exact absurd hr' (rdN_not hr)
  · rcases h' with ⟨zs', hr', hf'⟩ | ⟨hr', rfl⟩
    · exact absurd hr (rdN_not hr')
    · rfl
end Go.Proofs.YtpoknljchikklaaGreat
