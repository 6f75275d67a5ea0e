/- Strengthened signatures, by the program and by the model. -/
import Derived.Test.YtmgppdedcciogaaGreatSigOut
import Derived.Test.YtmgppdedcciogaaGreatNames
import Derived.Test.YtmgppdedcciogaaGreatAbsW3
set_option linter.unusedVariables false
set_option linter.unusedSimpArgs false
namespace Go.Proofs.YtmgppdedcciogaaGreat
open Go.Abs

def strI (mod : List UInt8) : VI → VI
  | .ab n => .al n (.nm mod n)
  | .al n v => .al n v
  | .va n v => .va n v
theorem viK_str (mod : List UInt8) (y : VI) : viK (strI mod y) = viK y := by cases y <;> rfl
/-- what strengthening answers -/
def RdS (s : List SigI) (mod : List UInt8) : Option (List VI) → Prop
  | some zs => ∃ ys, s.length ≤ 8 ∧ ReadsTo s ys ∧ ordB ys = true ∧ moduleB mod = true ∧ zs = ys.map (strI mod)
  | none => sigB s = false ∨ moduleB mod = false
theorem moduleB_ne {m : List UInt8} (h : moduleB m = true) : m ≠ [] := by
  rintro rfl; revert h; decide
theorem strI_getD (mod : List UInt8) {ys : List VI} {i : Nat} (h : i < ys.length) : (ys.map (strI mod)).getD i vi0 = strI mod (ys.getD i vi0) := by
  simp [List.getD, h]
theorem strI_keys (mod : List UInt8) (ys : List VI) (i : Nat) : ((ys.map (strI mod)).take i).map viK = (ys.take i).map viK := by
  rw [← List.map_take, List.map_map]
  congr 1
  funext y
  exact viK_str mod y
theorem ordB_str {mod : List UInt8} {ys : List VI} (hm : moduleB mod = true) (ho : ordB ys = true) : ordB (ys.map (strI mod)) = true := by
  have ho' := ho
  unfold ordB at ho' ⊢
  rw [List.all_eq_true] at ho' ⊢
  intro i hi
  rw [List.mem_range, List.length_map] at hi
  have hs := ho' i (List.mem_range.mpr hi)
  rw [strI_getD mod hi]
  simp only [stepB, Bool.and_eq_true, viK_str, strI_keys] at hs ⊢
  refine ⟨?_, hs.2⟩
  cases hy : ys.getD i vi0 with
  | ab n => simp [strI, allI, allV, okN, moduleB_ne hm]
  | al n v => rw [hy] at hs; exact hs.1
  | va n v => rw [hy] at hs; exact hs.1
theorem str_ok {s : List SigI} {ys : List VI} {mod : List UInt8} (hm : moduleB mod = true) (hr : ReadsTo s ys) {i : Nat} (hi : i < ys.length) : VOk (meanI (strI mod (ys.getD i vi0))) := by
  have h1 := hr.2 i (by rw [← hr.1]; exact hi)
  have h2 := mean_ok h1.1 h1.2
  have hn : localB (viK (ys.getD i vi0)).2 = true := by rw [← siOf_name, ← itemOf_si h1.2]; exact h1.1
  cases hy : ys.getD i vi0 with
  | ab n =>
    rw [hy] at hn
    refine ⟨?_, by simp [strI, meanI, dep], by simp [strI, meanI, cnt]⟩
    simp only [strI, meanI, okV, nmB, hm, Bool.or_true, Bool.true_and]
    exact hn
  | al n v => rw [hy] at h2; exact h2
  | va n v => rw [hy] at h2; exact h2
theorem str_reads {s : List SigI} {ys : List VI} {mod : List UInt8} (hm : moduleB mod = true) (hr : ReadsTo s ys) : ReadsTo ((ys.map (strI mod)).map siOf) (ys.map (strI mod)) := by
  refine ⟨by simp, fun i hi => ?_⟩
  have hi' : i < ys.length := by simpa using hi
  have e : ((ys.map (strI mod)).map siOf).getD i si0 = siOf ((ys.map (strI mod)).getD i vi0) := by simp [List.getD, hi']
  have h1 := hr.2 i (by rw [← hr.1]; exact hi')
  rw [e, strI_getD mod hi']
  refine ⟨?_, itemOf_of (str_ok hm hr hi')⟩
  rw [siOf_name, viK_str, ← siOf_name, ← itemOf_si h1.2]
  exact h1.1
theorem rdS_ex (s : List SigI) (mod : List UInt8) : ∃ o, RdS s mod o := by
  cases hb : sigB s with
  | false => exact ⟨none, .inl hb⟩
  | true =>
    cases hm : moduleB mod with
    | false => exact ⟨none, .inr hm⟩
    | true =>
      obtain ⟨ys, h8, hr, hord⟩ := sigB_yes hb
      exact ⟨some _, ys, h8, hr, hord, hm, rfl⟩
theorem rdS_eq {s : List SigI} {mod : List UInt8} {o o' : Option (List VI)} (h : RdS s mod o) (h' : RdS s mod o') : o = o' := by
  have key : ∀ {zs}, RdS s mod (some zs) → ¬ RdS s mod none := by
    rintro zs ⟨ys, h8, hr, ho, hm, _⟩ (h | h)
    · rw [sigB_reads h8 hr, ho] at h; cases h
    · rw [hm] at h; cases h
  cases o with
  | none =>
    cases o' with
    | none => rfl
    | some zs => exact absurd h (key h')
  | some zs =>
    cases o' with
    | none => exact absurd h' (key h)
    | some zs' =>
      obtain ⟨ys, _, hr, _, _, rfl⟩ := h
      obtain ⟨ys', _, hr', _, _, rfl⟩ := h'
      rw [readsTo_one hr hr']
theorem strX_ok {s : List SigI} {mod : List UInt8} (hs : ∀ x ∈ s, x.Ok) {o : Option (List VI)} (h : RdS s mod o) : (nrX o).length ≤ 8 ∧ (∀ x ∈ nrX o, x.Ok) ∧ totG (nrX o) ≤ 1600 := by
  cases o with
  | none => exact ⟨by simp [nrX], by simp [nrX], by simp [nrX, totG]⟩
  | some zs =>
    obtain ⟨ys, h8, hr, hord, hm, rfl⟩ := h
    refine itemsX_ok hs (by simp [hr.1]; exact h8) fun i hi => ?_
    rw [List.length_map] at hi
    rw [strI_getD mod hi]
    refine ⟨str_ok hm hr hi, ?_⟩
    have h1 := hr.2 i (by rw [← hr.1]; exact hi)
    rw [viK_str, ← siOf_name, ← itemOf_si h1.2]
    exact (hs _ (si_mem (by rw [← hr.1]; exact hi))).1

/-! ### the program -/
set_option maxRecDepth 100000 in
theorem impl_readSigK (s : List SigI) (hs : s.length ≤ 1048576) (ho : ∀ x ∈ s, x.Ok ∧ sz x.typ ≤ 1048576) (A : List Box) : ACalls Tryz.prog 38 [.slice (sEs s)] A (fun r A' => ∃ B, A' = A ++ B ∧
    ((∃ ys j, s.length ≤ 8 ∧ ReadsTo s ys ∧ r = .tuple [.own (A.length + j), .bool (ordB ys)] ∧ j < B.length ∧ B.getD j .dead = .row 1 (vRows ys) 0) ∨ ((8 < s.length ∨ ∃ x ∈ s, itemOk x = false) ∧ r = .tuple [.nils, .bool false]))) := by
  have hre := impl_readEach s hs ho A
  refine acalls_enterK (cf := cf 17 [0, 2, 3, 4, 5]) foll Tryz.func38 Tryz.ntmps38 (by simp [cf]) ?_
  simp only [Tryz.f38, EnterK_some, zW, zX, zD, builtinA, isLeaf, const1, ustrA, simprocAttr, ca67, ca69, cf, Tryz.results38]
  refine callO_intro hre ?_
  rintro r A' ⟨B, rfl, ⟨ys, j, h8, hrt, rfl, hj, hg⟩ | ⟨hbad, rfl⟩⟩
  · have hg2 : (A ++ B).getD (A.length + j) .dead = .row 1 (vRows ys) 0 := by rw [Abs.getD_append_right (by omega), Nat.add_sub_cancel_left]; exact hg
    simp only [zW, zX, zD, builtinA, isLeaf, const1, ustrA, simprocAttr, ca67, ca69, cf, Tryz.results38]
    refine callO_intro (borrowI (.cons (.row (A.length + j) 1 0 (vRows ys) (vRows ys) hg2 rfl (vRows_leaf ys) (vRows_view ys _)) .nil) rfl (fun A => impl_inOrder ys (by have := hrt.1; omega) A)) ?_
    rintro r A' ⟨rfl, rfl⟩
    simp only [zW, zX, zD, builtinA, isLeaf, const1, ustrA, simprocAttr, ca67, ca69, cf, Tryz.results38]
    exact ⟨B, rfl, .inl ⟨ys, j, h8, hrt, rfl, hj, hg⟩⟩
  · simp only [zW, zX, zD, builtinA, isLeaf, const1, ustrA, simprocAttr, ca67, ca69, cf, Tryz.results38]
    exact ⟨B, rfl, .inr hbad⟩
set_option maxRecDepth 100000 in
theorem impl_cloneSig (ys : List VI) (i : Nat) (A : List Box) (hb : A.getD i .dead = .row 1 (vRows ys) 0) (hi : i < A.length) (hl : ys.length ≤ 1000) : ACalls Tryz.prog 79 [.own i] A (fun r A' => ∃ B j, A' = A ++ B ∧ r = .own (A.length + j) ∧ j < B.length ∧ B.getD j .dead = .row 1 (vRows ys) 0) := by
  have hb2 : (A ++ [Box.row 1 [] 0]).getD i .dead = .row 1 (vRows ys) 0 := by rw [Abs.getD_append_left hi]; exact hb
  refine acalls_enterK (cf := cf 8 [0, 2, 4]) foll Tryz.func79 Tryz.ntmps79 (by simp [cf]) ?_
  simp only [Tryz.f79, EnterK_some, zW, zX, zD, builtinA, isLeaf, const1, ustrA, simprocAttr, ti64, ti108, cf, Tryz.results79]
  simp only [zW, zX, zD, builtinA, isLeaf, const1, ustrA, simprocAttr, ti64, ti108, cf, Tryz.results79, hb2, vRows_length]
  exact ⟨⟨fun r hr => (vRows_leaf ys r hr).1, by omega⟩, [.dead, .row 1 (vRows ys) 0], 1, rfl, rfl, by simp, rfl⟩

theorem vRows_set {ys zs : List VI} {i : Nat} (y : VI) (hz : zs.length = i) (hi : i < ys.length) : (vRows (zs ++ ys.drop i)).set i (vRow y) = vRows ((zs ++ [y]) ++ ys.drop (i + 1)) := by
  have : ys.drop i = ys.getD i vi0 :: ys.drop (i + 1) := vi_drop hi
  rw [this]
  simp only [vRows, List.map_append, List.map_cons]
  rw [List.set_append_right _ _ (by simp; omega)]
  simp [hz]
theorem vRows_drop (zs : List VI) (p : Nat) : List.drop 1 ((vRows zs).getD p []) = [] := by
  by_cases h : p < zs.length
  · rw [vRows_getD h]; rfl
  · have : (vRows zs)[p]? = none := by simp [vRows]; omega
    simp [List.getD, this]
set_option maxRecDepth 100000 in
theorem impl_strengthen (mod : List UInt8) (ys : List VI) (i : Nat) (A : List Box) (hb : A.getD i .dead = .row 1 (vRows ys) 0) (hi : i < A.length) (hl : ys.length ≤ 1000) : ACalls Tryz.prog 51 [.own i, .str mod] A (fun r A' => ∃ B j, A' = A ++ B ∧ r = .own (A.length + j) ∧ j < B.length ∧ B.getD j .dead = .row 1 (vRows (ys.map (strI mod))) 0) := by
  refine acalls_enterK (cf := cf 39 [0, 1, 4, 5, 6, 7, 8, 9, 12, 13, 14, 15, 24]) foll Tryz.func51 Tryz.ntmps51 (by simp [cf]) ?_
  simp only [Tryz.f51, EnterK_some, zW, zX, zD, builtinA, isLeaf, const1, ustrA, simprocAttr, ti3, ti9, ti64, ti83, ti108, ti127, ti130, ca79, za127, cf, Tryz.results51]
  refine callO_intro (impl_cloneSig ys i A hb hi hl) ?_
  rintro r A1 ⟨B, j, rfl, rfl, hj, hg⟩
  have hb2 : ∀ B, (A ++ B).getD i .dead = .row 1 (vRows ys) 0 := fun B => by rw [Abs.getD_append_left hi]; exact hb
  simp only [zW, zX, zD, builtinA, isLeaf, const1, ustrA, simprocAttr, ti3, ti9, ti64, ti83, ti108, ti127, ti130, ca79, za127, cf, Tryz.results51, hb2, vRows_length]
  refine aloop_intro [1, 5, 12, 13, 14] (fun e A' => ∃ p B, p ≤ ys.length ∧ e = [(1, .str mod), (5, .own (A.length + j)), (12, .own i), (13, .int .i64 ys.length), (14, .int .i64 p)] ∧ A' = A ++ B ∧ j < B.length ∧ B.getD j .dead = .row 1 (vRows ((ys.take p).map (strI mod) ++ ys.drop p)) 0) (fun e _ => ys.length - (intOf (Abs.look 14 e)).toNat) ?_ ?_
  · simp only [zW, zX, zD, builtinA, isLeaf, const1, ustrA, simprocAttr, ti3, ti9, ti64, ti83, ti108, ti127, ti130, ca79, za127, cf, Tryz.results51]
    exact ⟨0, B, by omega, rfl, rfl, hj, by simpa using hg⟩
  · rintro e A' ⟨p, B, hp, rfl, rfl, hj, hg⟩
    by_cases hp2 : p < ys.length
    · have d2 : decide ((p : Int) < (ys.length : Int)) = true := by simp; omega
      have he := vRows_getD hp2
      have hi1 : IntKind.i64.wrap ((p : Int) + 1) = ((p + 1 : Nat) : Int) := by rw [wrap64 (by omega) (by omega)]; rfl
      have pp : (0 : Int) ≤ (p : Int) ∧ (p : Int) < (ys.length : Int) := ⟨by omega, by omega⟩
      have hzl : ((ys.take p).map (strI mod)).length = p := by simp; omega
      have hst := fun y => vRows_set y hzl hp2
      have hrl : (vRows ((ys.take p).map (strI mod) ++ ys.drop p)).length = ys.length := by rw [vRows_length]; simp; omega
      have htk : (ys.take (p + 1)).map (strI mod) = (ys.take p).map (strI mod) ++ [strI mod (ys.getD p vi0)] := by
        rw [List.take_add_one, List.map_append]; simp [List.getD, hp2]
      have hdr : ys.drop p = ys.getD p vi0 :: ys.drop (p + 1) := vi_drop hp2
      generalize ys.getD p vi0 = y at *
      rw [vRow] at he
      cases y with
      | ab n =>
        have hst2 := hst (.al n (.nm mod n))
        simp only [vRow, viT, viX, vT, vX] at he hst2
        simp only [zW, zX, zD, builtinA, isLeaf, const1, ustrA, simprocAttr, ti3, ti9, ti64, ti83, ti108, ti127, ti130, ca79, za127, cf, Tryz.results51, hb2, vRows_length, d2, he]
        refine ⟨pp, ?_⟩
        have hgB : ∀ X, (B ++ X).getD j .dead = .row 1 (vRows ((ys.take p).map (strI mod) ++ ys.drop p)) 0 := fun X => by rw [Abs.getD_append_left hj]; exact hg
        have hst3 : ((B ++ [Box.cells [.str n]]).set j (.row 1 (vRows ((ys.take p).map (strI mod) ++ [VI.al n (VT.nm mod n)] ++ ys.drop (p + 1))) 0)).getD j .dead = .row 1 (vRows ((ys.take (p + 1)).map (strI mod) ++ ys.drop (p + 1))) 0 := by
          rw [getD_set_self (by simp; omega), htk]; rfl
        have hjl : j < B.length + 1 := by omega
        have hdz := vRows_drop ((ys.take p).map (strI mod) ++ ys.drop p) p
        simp only [zW, zX, zD, builtinA, isLeaf, const1, ustrA, simprocAttr, ti3, ti9, ti64, ti83, ti108, ti127, ti130, ca79, za127, cf, Tryz.results51, wpO_typeAssert, assert_yes, hb2, hgB, hrl, hst2, hdz, hjl, hi1, LoopK_eq]
        refine ⟨pp, ⟨by omega, by omega, fun w hw => by rw [List.mem_singleton.1 hw]⟩, ⟨p + 1, _, by omega, rfl, rfl, by simp; omega, by rw [List.append_assoc] at hst3; exact hst3⟩, ?_⟩
        simp only [intOf]; omega
      | al n v =>
        have has := fun A => assert_no [.str []] 130 127 (.agg [.str n, .iface (vT v) (vX v)]) rfl (A := A)
        simp only [viT, viX] at he
        simp only [zW, zX, zD, builtinA, isLeaf, const1, ustrA, simprocAttr, ti3, ti9, ti64, ti83, ti108, ti127, ti130, ca79, za127, cf, Tryz.results51, hb2, vRows_length, d2, he]
        refine ⟨pp, ?_⟩
        simp only [zW, zX, zD, builtinA, isLeaf, const1, ustrA, simprocAttr, ti3, ti9, ti64, ti83, ti108, ti127, ti130, ca79, za127, cf, Tryz.results51, wpO_typeAssert, has, hi1, LoopK_eq]
        refine ⟨⟨p + 1, B ++ [.cells [.str []]], by omega, rfl, by simp, by simp; omega, ?_⟩, ?_⟩
        · rw [Abs.getD_append_left hj, hg, htk, hdr]; simp [strI]
        · simp only [intOf]; omega
      | va n v =>
        have has := fun A => assert_no [.str []] 141 127 (.agg [.str n, .iface (vT v) (vX v)]) rfl (A := A)
        simp only [viT, viX] at he
        simp only [zW, zX, zD, builtinA, isLeaf, const1, ustrA, simprocAttr, ti3, ti9, ti64, ti83, ti108, ti127, ti130, ca79, za127, cf, Tryz.results51, hb2, vRows_length, d2, he]
        refine ⟨pp, ?_⟩
        simp only [zW, zX, zD, builtinA, isLeaf, const1, ustrA, simprocAttr, ti3, ti9, ti64, ti83, ti108, ti127, ti130, ca79, za127, cf, Tryz.results51, wpO_typeAssert, has, hi1, LoopK_eq]
        refine ⟨⟨p + 1, B ++ [.cells [.str []]], by omega, rfl, by simp, by simp; omega, ?_⟩, ?_⟩
        · rw [Abs.getD_append_left hj, hg, htk, hdr]; simp [strI]
        · simp only [intOf]; omega
    · have d2 : decide ((p : Int) < (ys.length : Int)) = false := by simp; omega
      have e : p = ys.length := by omega
      subst e
      simp only [zW, zX, zD, builtinA, isLeaf, const1, ustrA, simprocAttr, ti3, ti9, ti64, ti83, ti108, ti127, ti130, ca79, za127, cf, Tryz.results51, d2]
      exact ⟨B, j, rfl, rfl, hj, by simpa using hg⟩

theorem sg_none (A B : List Box) : SgOut A [] false (.tuple [.nils, .bool false]) (A ++ B) := ⟨_, [], rfl, .inl ⟨rfl, rfl, rfl⟩, by simp, by simp, by simp, fun i hi => Abs.getD_append_left hi⟩
set_option maxRecDepth 100000 in
theorem impl_StrengthenSig (s : List SigI) (hs : s.length ≤ 1048576) (ho : ∀ x ∈ s, x.Ok ∧ sz x.typ ≤ 1048576) (mod : List UInt8) (A : List Box) : ACalls Tryz.prog 25 [.slice (sEs s), .str mod] A (fun r A' => ∃ o, RdS s mod o ∧ SgOut A (nrX o) o.isSome r A') := by
  refine acalls_enterK (cf := cf 24 [0, 1, 4, 5, 6, 7, 19]) foll Tryz.func25 Tryz.ntmps25 (by simp [cf]) ?_
  simp only [Tryz.f25, EnterK_some, zW, zX, zD, builtinA, isLeaf, const1, ustrA, simprocAttr, ca27, ca38, ca50, ca51, cf, Tryz.results25]
  refine callO_intro (impl_readSigK s hs ho _) ?_
  rintro r A1 ⟨B, rfl, ⟨ys, j, h8, hr, rfl, hj, hg⟩ | ⟨hbad, rfl⟩⟩
  · have hyl := hr.1
    cases hord : ordB ys with
    | false =>
      simp only [zW, zX, zD, builtinA, isLeaf, const1, ustrA, simprocAttr, ca27, ca38, ca50, ca51, cf, Tryz.results25]
      exact ⟨none, .inl (by rw [sigB_reads h8 hr]; exact hord), sg_none A B⟩
    | true =>
      simp only [zW, zX, zD, builtinA, isLeaf, const1, ustrA, simprocAttr, ca27, ca38, ca50, ca51, cf, Tryz.results25]
      refine callK_intro (by simp only [zW, zX, zD, builtinA, isLeaf, const1, ustrA, simprocAttr, Option.map_some]; rfl) (impl_ModuleName mod _) ?_ rfl; rintro v A' ⟨rfl, rfl⟩
      cases hm : moduleB mod with
      | false =>
        simp only [zW, zX, zD, builtinA, isLeaf, const1, ustrA, simprocAttr, ca27, ca38, ca50, ca51, cf, Tryz.results25]
        exact ⟨none, .inr hm, sg_none A B⟩
      | true =>
        have hg2 : (A ++ B).getD (A.length + j) .dead = .row 1 (vRows ys) 0 := by rw [Abs.getD_append_right (by omega), Nat.add_sub_cancel_left]; exact hg
        simp only [zW, zX, zD, builtinA, isLeaf, const1, ustrA, simprocAttr, ca27, ca38, ca50, ca51, cf, Tryz.results25]
        refine callO_intro (impl_strengthen mod ys (A.length + j) (A ++ B) hg2 (by simp; omega) (by omega)) ?_
        rintro r A' ⟨C, k, rfl, rfl, hk, hgk⟩
        simp only [zW, zX, zD, builtinA, isLeaf, const1, ustrA, simprocAttr, ca27, ca38, ca50, ca51, cf, Tryz.results25]
        have h1 : (A ++ (B ++ C)).getD (A.length + B.length + k) .dead = .row 1 (vRows (ys.map (strI mod))) 0 := by
          rw [Abs.getD_append_right (by omega), show A.length + B.length + k - A.length = B.length + k by omega, Abs.getD_append_right (by omega), show B.length + k - B.length = k by omega]; exact hgk
        have hfz : frzs [.own (A.length + B.length + k)] (A ++ (B ++ C)) = some ([.slice (vRows (ys.map (strI mod)))], A ++ (B ++ C).set (B.length + k) (.row 1 (vRows (ys.map (strI mod))) (vRows (ys.map (strI mod))).length)) := by
          have h2 : (A ++ (B ++ C)).set (A.length + B.length + k) (.row 1 (vRows (ys.map (strI mod))) (vRows (ys.map (strI mod))).length) = A ++ (B ++ C).set (B.length + k) (.row 1 (vRows (ys.map (strI mod))) (vRows (ys.map (strI mod))).length) := by
            rw [List.set_append_right _ _ (by omega), show A.length + B.length + k - A.length = B.length + k by omega]
          simp only [frzs, frzC, frz1, h1, h2]
        refine callK_intro hfz (impl_plainSig (ys.map (strI mod)) (by simp; omega) _) ?_ rfl
        rintro r A' ⟨i, rfl, hle, hf, rows, S, hgi, hO, hN, hge⟩
        simp only [zW, zX, zD, builtinA, isLeaf, const1, ustrA, simprocAttr, ca27, ca38, ca50, ca51, cf, Tryz.results25]
        simp only [List.length_append, List.length_set] at hle hge
        exact ⟨some _, ⟨ys, h8, hr, hord, hm, rfl⟩, _, i :: S, rfl, .inr ⟨i, rows, S, rfl, rfl, hgi, hO⟩, hN, fun x hx => by have := hge x hx; omega, by omega, fun x hx => by rw [hf x (by simp; omega), Abs.getD_append_left hx]⟩
  · simp only [zW, zX, zD, builtinA, isLeaf, const1, ustrA, simprocAttr, ca27, ca38, ca50, ca51, cf, Tryz.results25]
    exact ⟨none, .inl (sigB_bad hbad), sg_none A B⟩

/-! ### the model -/
theorem ready {s : List SigI} {ys : List VI} (h : ReadsTo s ys) {i : Nat} (hi : i < s.length) : s.getD i si0 = siOf (ys.getD i vi0) := itemOf_si (h.2 i hi).2
theorem mix_get {Z D : List SigI} (x : SigI) {i : Nat} (hz : Z.length = i) : (sEs (Z ++ x :: D)).getD i [] = sE x := by
  rw [sEs_app, Abs.getD_append_right (by rw [sEs_length]; omega), sEs_length, hz, Nat.sub_self]; rfl
theorem mix_put {Z D : List SigI} (x y : SigI) {i : Nat} (hz : Z.length = i) : (sEs (Z ++ x :: D)).set i (sE y) = sEs (Z ++ y :: D) := by
  rw [sEs_app, List.set_append_right _ _ (by rw [sEs_length]; omega), sEs_length, hz, Nat.sub_self, sEs_app]; rfl
set_option maxRecDepth 100000 in
theorem spec_l2Strong (s : List SigI) (ys : List VI) (hs : s.length ≤ 8) (hz : ∀ x ∈ s, sz x.typ ≤ 1048576) (hr : ReadsTo s ys) (mod : List UInt8) (A : List Box) : ACalls Tryz.prog 55 [.slice (sEs s), .str mod] A (fun r A' => ∃ B j, A' = A ++ B ∧ r = .own (A.length + j) ∧ j < B.length ∧ B.getD j .dead = .row 6 (sEs ((ys.map (strI mod)).map siOf)) 0) := by
  have hyl := hr.1
  refine acalls_enterK (cf := cf 37 [0, 1, 4, 5, 6, 12, 20]) foll Tryz.func55 Tryz.ntmps55 (by simp [cf]) ?_
  simp only [Tryz.f55, EnterK_some, zW, zX, zD, builtinA, isLeaf, const1, ustrA, simprocAttr, ti3, ti9, ti23, ti33, ti42, ca44, ca61, cf, Tryz.results55]
  refine callO_intro (spec_l2Copy s (by omega) hz _) ?_
  rintro r A' ⟨B, j, rfl, rfl, hj, hg⟩
  simp only [zW, zX, zD, builtinA, isLeaf, const1, ustrA, simprocAttr, ti3, ti9, ti23, ti33, ti42, ca44, ca61, cf, Tryz.results55]
  refine aloop_intro [1, 5, 6] (fun e A' => ∃ i B, i ≤ s.length ∧ e = [(1, .str mod), (5, .own (A.length + j)), (6, .int .i64 i)] ∧ A' = A ++ B ∧ j < B.length ∧ B.getD j .dead = .row 6 (sEs (((ys.take i).map (strI mod)).map siOf ++ s.drop i)) 0) (fun e _ => s.length - (intOf (Abs.look 6 e)).toNat) ?_ ?_
  · simp only [zW, zX, zD, builtinA, isLeaf, const1, ustrA, simprocAttr, ti3, ti9, ti23, ti33, ti42, ca44, ca61, cf, Tryz.results55]
    exact ⟨0, B, by omega, rfl, rfl, hj, by simpa using hg⟩
  · rintro e A' ⟨i, B, hi, rfl, rfl, hj, hg⟩
    have hzl : (((ys.take i).map (strI mod)).map siOf).length = i := by simp; omega
    have hrl : (sEs (((ys.take i).map (strI mod)).map siOf ++ s.drop i)).length = s.length := by rw [sEs_length]; simp; omega
    simp only [zW, zX, zD, builtinA, isLeaf, const1, ustrA, simprocAttr, ti3, ti9, ti23, ti33, ti42, ca44, ca61, cf, Tryz.results55, hg, hj, hrl]
    refine condK_intro (fun h2 => ?_) (fun h2 => ?_)
    · have hi2 : i < s.length := by simpa using h2
      have hi1 : IntKind.i64.wrap ((i : Int) + 1) = ((i + 1 : Nat) : Int) := by rw [wrap64 (by omega) (by omega)]; rfl
      have pi : (0 : Int) ≤ (i : Int) ∧ (i : Int) < (s.length : Int) := ⟨by omega, by omega⟩
      have hm := mix_getD hzl hi2
      have hset := fun x => mix_set x hzl hi2
      have hdr := mix_drop hi2
      have hsi := ready hr hi2
      have htk : ((ys.take (i + 1)).map (strI mod)).map siOf = ((ys.take i).map (strI mod)).map siOf ++ [siOf (strI mod (ys.getD i vi0))] := by
        rw [List.take_add_one, List.map_append, List.map_append]; simp [List.getD, show i < ys.length by omega]
      rw [hsi] at hm hdr
      generalize ys.getD i vi0 = y at *
      cases y with
      | ab n =>
        have hN := fun A => spec_l1Name0 mod n A
        have hset1 := hset ⟨2, n, ty0⟩
        have hm2 := mix_get (D := s.drop (i + 1)) ⟨2, n, ty0⟩ hzl
        have hset2 := mix_put (D := s.drop (i + 1)) ⟨2, n, ty0⟩ ⟨2, n, .mk 3 mod n []⟩ hzl
        have hl2 : ∀ x, (sEs (((ys.take i).map (strI mod)).map siOf ++ x :: s.drop (i + 1))).length = s.length := fun x => by rw [sEs_length, List.length_append, hzl]; simp; omega
        simp only [siOf, sE, ty0, enc, encs] at hm hset1 hm2 hset2 hN
        have hgj : ∀ X : Box, (B.set j X).getD j .dead = X := fun X => getD_set_self hj
        simp only [zW, zX, zD, builtinA, isLeaf, const1, ustrA, simprocAttr, ti3, ti9, ti23, ti33, ti42, ca44, ca61, cf, Tryz.results55, hm, hset1, hm2, hset2, hl2, hg, hj, hgj, hrl]
        refine ⟨pi, pi, ⟨by omega, by omega, fun w hw => by rw [List.mem_singleton.1 hw]⟩, pi, ?_⟩
        refine callK_intro (by simp only [zW, zX, zD, builtinA, isLeaf, const1, ustrA, simprocAttr, Option.map_some]; rfl) (hN _) ?_ rfl; rintro v A' ⟨rfl, rfl⟩
        simp only [zW, zX, zD, builtinA, isLeaf, const1, ustrA, simprocAttr, ti3, ti9, ti23, ti33, ti42, ca44, ca61, cf, Tryz.results55, hm, hset1, hm2, hset2, hl2, hg, hj, hgj, hrl, List.set_set, hi1, LoopK_eq]
        have lf : ∀ w ∈ [AV.int .i64 3, AV.str mod, AV.str n, AV.slice []], isLeaf w = true := by simp [isLeaf]
        refine ⟨pi, ⟨by omega, by omega, fun w hw => lf w hw⟩, ⟨i + 1, _, by omega, rfl, rfl, by simpa using hj, by rw [hgj, htk]; simp [siOf, strI, toTy]⟩, ?_⟩
        simp only [intOf]; omega
      | al n v =>
        simp only [siOf, sE] at hm
        simp only [zW, zX, zD, builtinA, isLeaf, const1, ustrA, simprocAttr, ti3, ti9, ti23, ti33, ti42, ca44, ca61, cf, Tryz.results55, hm, hg, hj, hrl, enc_length]
        refine ⟨pi, ?_⟩
        simp only [zW, zX, zD, builtinA, isLeaf, const1, ustrA, simprocAttr, ti3, ti9, ti23, ti33, ti42, ca44, ca61, cf, Tryz.results55, hi1, LoopK_eq]
        refine ⟨⟨i + 1, B, by omega, rfl, rfl, hj, ?_⟩, ?_⟩
        · rw [hg, htk, hdr]; simp [strI]
        · simp only [intOf]; omega
      | va n v =>
        simp only [siOf, sE] at hm
        simp only [zW, zX, zD, builtinA, isLeaf, const1, ustrA, simprocAttr, ti3, ti9, ti23, ti33, ti42, ca44, ca61, cf, Tryz.results55, hm, hg, hj, hrl, enc_length]
        refine ⟨pi, ?_⟩
        simp only [zW, zX, zD, builtinA, isLeaf, const1, ustrA, simprocAttr, ti3, ti9, ti23, ti33, ti42, ca44, ca61, cf, Tryz.results55, hi1, LoopK_eq]
        refine ⟨⟨i + 1, B, by omega, rfl, rfl, hj, ?_⟩, ?_⟩
        · rw [hg, htk, hdr]; simp [strI]
        · simp only [intOf]; omega
    · have hi2 : i = s.length := by simp at h2; omega
      subst hi2
      simp only [zW, zX, zD, builtinA, isLeaf, const1, ustrA, simprocAttr, ti3, ti9, ti23, ti33, ti42, ca44, ca61, cf, Tryz.results55]
      refine ⟨B, j, rfl, rfl, hj, ?_⟩
      rw [hg, List.drop_length, List.append_nil, ← hyl, List.take_length]

set_option maxRecDepth 100000 in
theorem spec_StrengthenSig (s : List SigI) (hs : s.length ≤ 1048576) (ho : ∀ x ∈ s, x.Ok ∧ sz x.typ ≤ 1048576) (mod : List UInt8) (A : List Box) : ACalls Tryz.prog 26 [.slice (sEs s), .str mod] A (fun r A' => ∃ o, RdS s mod o ∧ r = nrR o ∧ A' = A) := by
  refine acalls_enter (cf := cf 21 [0, 1, 4, 5, 13]) foll Tryz.func26 Tryz.ntmps26 (by simp [cf]) ?_
  simp only [Tryz.f26, EnterK_some, zW, zX, zD, builtinA, isLeaf, const1, ustrA, simprocAttr, ti23, ti42, ca52, ca53, ca54, ca55, cf, Tryz.results26]
  refine callO_intro (spec_SigValid s hs ho _) ?_
  rintro r A' ⟨rfl, hA⟩
  have hA := hA.symm
  subst hA
  cases hb : sigB s with
  | false =>
    simp only [zW, zX, zD, builtinA, isLeaf, const1, ustrA, simprocAttr, ti23, ti42, ca52, ca53, ca54, ca55, cf, Tryz.results26]
    exact ⟨none, .inl hb, rfl⟩
  | true =>
    obtain ⟨ys, h8, hr, hord⟩ := sigB_yes hb
    have hys := hr.1
    simp only [zW, zX, zD, builtinA, isLeaf, const1, ustrA, simprocAttr, ti23, ti42, ca52, ca53, ca54, ca55, cf, Tryz.results26]
    refine callO_intro (spec_ModuleName mod _) ?_
    rintro r A' ⟨rfl, hA⟩
    have hA := hA.symm
    subst hA
    cases hm : moduleB mod with
    | false =>
      simp only [zW, zX, zD, builtinA, isLeaf, const1, ustrA, simprocAttr, ti23, ti42, ca52, ca53, ca54, ca55, cf, Tryz.results26]
      exact ⟨none, .inr hm, rfl⟩
    | true =>
      simp only [zW, zX, zD, builtinA, isLeaf, const1, ustrA, simprocAttr, ti23, ti42, ca52, ca53, ca54, ca55, cf, Tryz.results26]
      refine callO_intro (spec_l2Strong s ys h8 (fun x hx => (ho x hx).2) hr mod _) ?_
      rintro r A' ⟨B, j, rfl, rfl, hj, hg⟩
      have h1 : (A ++ B).getD (A.length + j) .dead = .row 6 (sEs ((ys.map (strI mod)).map siOf)) 0 := by
        rw [Abs.getD_append_right (by omega), show A.length + j - A.length = j by omega]; exact hg
      have hfz : frzs [.own (A.length + j)] (A ++ B) = some ([.slice (sEs ((ys.map (strI mod)).map siOf))], A ++ B.set j (.row 6 (sEs ((ys.map (strI mod)).map siOf)) (sEs ((ys.map (strI mod)).map siOf)).length)) := by
        have h2 : (A ++ B).set (A.length + j) (.row 6 (sEs ((ys.map (strI mod)).map siOf)) (sEs ((ys.map (strI mod)).map siOf)).length) = A ++ B.set j (.row 6 (sEs ((ys.map (strI mod)).map siOf)) (sEs ((ys.map (strI mod)).map siOf)).length) := by simp [List.set_append]
        simp only [frzs, frzC, frz1, h1, h2]
      have hsg : sigB ((ys.map (strI mod)).map siOf) = true := by rw [sigB_reads (by simp; omega) (str_reads hm hr)]; exact ordB_str hm hord
      have hzk : ∀ x ∈ (ys.map (strI mod)).map siOf, x.Ok ∧ sz x.typ ≤ 1048576 := fun x hx => by
        obtain ⟨z, hz1, rfl⟩ := List.mem_map.1 hx
        obtain ⟨y, hy1, rfl⟩ := List.mem_map.1 hz1
        obtain ⟨k, hk, rfl⟩ := List.mem_iff_getElem.1 hy1
        have e : ys[k] = ys.getD k vi0 := by simp [List.getD, hk]
        have h3 := hr.2 k (by omega)
        rw [e]
        refine siOf_ok (str_ok hm hr hk) ?_
        rw [viK_str, ← siOf_name, ← itemOf_si h3.2]
        exact (ho _ (si_mem (by omega))).1.1
      simp only [zW, zX, zD, builtinA, isLeaf, const1, ustrA, simprocAttr, ti23, ti42, ca52, ca53, ca54, ca55, cf, Tryz.results26]
      refine callK_intro hfz (spec_l2Made _ (by simp; omega) hzk _) ?_ rfl
      rintro r A' ⟨rfl, rfl⟩
      rw [if_pos hsg]
      simp only [sgR]
      simp only [zW, zX, zD, builtinA, isLeaf, const1, ustrA, simprocAttr, ti23, ti42, ca52, ca53, ca54, ca55, cf, Tryz.results26]
      exact ⟨some (ys.map (strI mod)), ⟨ys, h8, hr, hord, hm, rfl⟩, rfl⟩
end Go.Proofs.YtmgppdedcciogaaGreat
