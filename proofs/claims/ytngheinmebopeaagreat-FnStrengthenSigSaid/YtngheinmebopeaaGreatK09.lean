/- SigOne, SpNorm, SigPure, NormP, OwnMark, OwnTo, OwnSi, SigPl, OwnBd, SubNew, SpSigN. -/
import Derived.Test.YtngheinmebopeaaGreatK08
import Derived.Test.YtngheinmebopeaaGreatAbsW3
/- What a name of a signature stands for is one thing only. -/
set_option linter.unusedVariables false
set_option linter.unusedSimpArgs false
namespace Go.Proofs.YtngheinmebopeaaGreat
open Go.Abs

theorem itemOf_one {x : SigI} {y y' : VI} (h : ItemOf x y) (h' : ItemOf x y') : y = y' := by
  cases y <;> cases y' <;> simp only [ItemOf] at h h'
  all_goals first
    | (exfalso; have := h.2.1; have := h'.2.1; omega)
    | (rw [← h.1, ← h'.1, toTy_injS (h.2.2.1.symm.trans h'.2.2.1)]; done)
    | (rw [← h.1, ← h'.1]; done)
theorem itemOf_yes {x : SigI} {y : VI} (hl : localB x.name = true) (h : ItemOf x y) : itemOk x = true := by
  cases y <;> simp only [ItemOf] at h
  · simp [itemOk, hl, h.2.1, h.2.2]
  · simp [itemOk, hl, h.2.1, h.2.2.1, validB_toTy h.2.2.2]
  · simp [itemOk, hl, h.2.1, h.2.2.1, validB_toTy h.2.2.2]
theorem vi_ext {ys zs : List VI} (hl : ys.length = zs.length) (h : ∀ i, i < ys.length → ys.getD i vi0 = zs.getD i vi0) : ys = zs := by
  refine List.ext_getElem hl fun i h1 h2 => ?_
  have := h i h1
  simpa [List.getD, h1, h2] using this
theorem readsTo_one {s : List SigI} {ys zs : List VI} (h : ReadsTo s ys) (h' : ReadsTo s zs) : ys = zs :=
  vi_ext (h.1.trans h'.1.symm) fun i hi => itemOf_one (h.2 i (h.1 ▸ hi)).2 (h'.2 i (h.1 ▸ hi)).2
theorem readsTo_not {s : List SigI} {ys : List VI} (h : ReadsTo s ys) : ¬ ∃ x ∈ s, itemOk x = false := by
  rintro ⟨x, hx, hf⟩
  obtain ⟨i, hi, rfl⟩ := List.mem_iff_getElem.1 hx
  have := h.2 i hi
  have e : s.getD i si0 = s[i] := by simp [List.getD, hi]
  rw [e] at this
  rw [itemOf_yes this.1 this.2] at hf
  cases hf
theorem rdN_one {s : List SigI} {zs zs' : List VI} (h : RdN s (some zs)) (h' : RdN s (some zs')) : zs = zs' := by
  obtain ⟨ys, _, hr, _, hn⟩ := h
  obtain ⟨ys', _, hr', _, hn'⟩ := h'
  rw [readsTo_one hr hr', hn'] at hn
  exact (Option.some.inj hn).symm
theorem rdN_not {s : List SigI} {zs : List VI} (h : RdN s (some zs)) : ¬ RdN s none := by
  obtain ⟨ys, h8, hr, ho, hn⟩ := h
  rintro ((h | h) | ⟨ys', _, hr', h | h⟩)
  · omega
  · exact readsTo_not hr h
  · rw [readsTo_one hr' hr, ho] at h; cases h
  · rw [readsTo_one hr' hr, hn] at h; cases h
theorem ordB_ne {ys : List VI} (h : ordB ys = true) {i j : Nat} (hij : i < j) (hj : j < ys.length) : viK (ys.getD i vi0) ≠ viK (ys.getD j vi0) := by
  intro e
  have hs : stepB (ys.take j) (ys.getD j vi0) = true := by
    unfold ordB at h
    rw [List.all_eq_true] at h
    exact h j (List.mem_range.mpr hj)
  simp only [stepB, Bool.and_eq_true, Bool.not_eq_true', decide_eq_false_iff_not] at hs
  refine hs.2 (List.mem_map.2 ⟨ys.getD i vi0, ?_, e⟩)
  rw [List.mem_take_iff_getElem]
  exact ⟨i, by omega, by simp [List.getD, show i < ys.length by omega]⟩
theorem ordB_inj {ys : List VI} (h : ordB ys = true) {i j : Nat} (hi : i < ys.length) (hj : j < ys.length) (e : viK (ys.getD i vi0) = viK (ys.getD j vi0)) : i = j := by
  rcases Nat.lt_trichotomy i j with hl | hl | hl
  · exact absurd e (ordB_ne h hl hj)
  · exact hl
  · exact absurd e.symm (ordB_ne h hl hi)
theorem normL_keys : ∀ {ys zs : List VI} {m : List (BNm × VT)}, normL m ys = some zs → zs.map viK = ys.map viK
  | [], zs, m, h => by cases h; rfl
  | y :: ys, zs, m, h => by
    rw [normL] at h
    split at h
    · obtain ⟨x, hx, rfl⟩ := Option.map_eq_some_iff.1 h
      simp [normL_keys hx, viK_sub]
    · cases h
theorem keys_getD {ys zs : List VI} (h : zs.map viK = ys.map viK) {i : Nat} (hi : i < zs.length) : viK (zs.getD i vi0) = viK (ys.getD i vi0) := by
  have hl : zs.length = ys.length := by simpa using congrArg List.length h
  have := congrArg (fun l => l[i]?) h
  simpa [List.getD, hi, hl ▸ hi] using this
theorem findO_one {s : List SigI} {zs : List VI} (h : RdN s (some zs)) {q : Ky} {o o' : Option VT} (h1 : FindO zs q o) (h2 : FindO zs q o') : o = o' := by
  obtain ⟨ys, _, hr, ho, hn⟩ := h
  have hk := normL_keys hn
  have hl := normL_len hn
  cases o with
  | none =>
    cases o' with
    | none => rfl
    | some v => obtain ⟨i, hi, hq, _⟩ := h2; exact absurd hq (h1 i hi)
  | some v =>
    obtain ⟨i, hi, hq, hv⟩ := h1
    cases o' with
    | none => exact absurd hq (h2 i hi)
    | some w =>
      obtain ⟨j, hj, hq2, hw⟩ := h2
      have e : i = j := ordB_inj ho (by omega) (by omega) (by rw [← keys_getD hk hi, ← keys_getD hk hj, hq, hq2])
      rw [← hv, ← hw, e]
/-- one answer only -/
theorem meanIs_one {s : List SigI} {q : Ky} {o o' : Option VT} (h : MeanIs s q o) (h' : MeanIs s q o') : o = o' := by
  rcases h with ⟨zs, hr, hf⟩ | ⟨hr, rfl⟩
  · rcases h' with ⟨zs', hr', hf'⟩ | ⟨hr', rfl⟩
    · rw [← rdN_one hr hr'] at hf'
      exact findO_one hr hf hf'
    · exact absurd hr' (rdN_not hr)
  · rcases h' with ⟨zs', hr', hf'⟩ | ⟨hr', rfl⟩
    · exact absurd hr (rdN_not hr')
    · rfl
end Go.Proofs.YtngheinmebopeaaGreat

/- The model's normal signatures. -/
set_option linter.unusedVariables false
set_option linter.unusedSimpArgs false
namespace Go.Proofs.YtngheinmebopeaaGreat
open Go.Abs

set_option maxRecDepth 100000 in
theorem spec_l2Copy (s : List SigI) (hl : s.length ≤ 1048576) (hz : ∀ x ∈ s, sz x.typ ≤ 1048576) (A : List Box) : ACalls Tryz.prog 32 [.slice (sEs s)] A (fun r A' => ∃ B j, A' = A ++ B ∧ r = .own (A.length + j) ∧ j < B.length ∧ B.getD j .dead = .row 6 (sEs s) 0) := by
  refine acalls_enterK (cf := cf 33 [0, 2, 3, 4, 9]) foll Tryz.func32 Tryz.ntmps32 (by simp [cf]) ?_
  simp only [Tryz.f32, EnterK_some, zW, zX, zD, builtinA, isLeaf, const1, ustrA, simprocAttr, ti3, ti9, ti23, ti32, ti34, ca54, cf, Tryz.results32]
  refine aloop_intro [0, 3, 4] (fun e A' => ∃ i j B, i ≤ s.length ∧ e = [(0, .slice (sEs s)), (3, .own (A.length + j)), (4, .int .i64 i)] ∧ A' = A ++ B ∧ j < B.length ∧ B.getD j .dead = .row 6 (sEs (s.take i)) 0) (fun e _ => s.length - (intOf (Abs.look 4 e)).toNat) ?_ ?_
  · simp only [zW, zX, zD, builtinA, isLeaf, const1, ustrA, simprocAttr, ti3, ti9, ti23, ti32, ti34, ca54, cf, Tryz.results32]
    exact ⟨0, 0, [.row 6 [] 0], by omega, rfl, rfl, by simp, rfl⟩
  · rintro e A' ⟨i, j, B, hi, rfl, rfl, hj, hg⟩
    simp only [zW, zX, zD, builtinA, isLeaf, const1, ustrA, simprocAttr, ti3, ti9, ti23, ti32, ti34, ca54, cf, Tryz.results32, sEs_length]
    refine condK_intro (fun h2 => ?_) (fun h2 => ?_)
    · have hi2 : i < s.length := by simpa using h2
      have he := sEs_getD hi2
      have hmm : s.getD i si0 ∈ s := by simp [List.getD, hi2]
      have hi1 : IntKind.i64.wrap ((i : Int) + 1) = ((i + 1 : Nat) : Int) := by rw [wrap64 (by omega) (by omega)]; rfl
      have hsn : sEs (s.take i) ++ [sE (s.getD i si0)] = sEs (s.take (i + 1)) := by
        rw [sEs, sEs, List.take_add_one, List.map_append]
        simp [List.getD, hi2]
      have pi : (0 : Int) ≤ (i : Int) ∧ (i : Int) < (s.length : Int) := ⟨by omega, by omega⟩
      generalize hx : s.getD i si0 = x at *
      simp only [sE] at he hsn
      have hl6 : ∀ (k : Int) (n : List UInt8) (t : Ty), (AV.int .i64 k :: .str n :: enc t).length = 6 := fun k n t => by simp [enc_length]
      simp only [wpc_skip, AThen_normal, wpc_block, wpc_seq, wpc_drawn]
      refine .inr (drawE_intro [(false, 0, 2), (false, 0, 1), (false, 0, 1), (false, 0, 1), (false, 0, 1), (false, 0, 1), (false, 0, 1), (false, 0, 1), (false, 0, 1), (false, 0, 1), (false, 0, 1), (false, 0, 0), (false, 0, 0), (false, 0, 0), (false, 0, 0), (false, 0, 0), (true, 0, 0), (false, 1, 1), (true, 1, 1), (true, 2, 2), (false, 3, 3)] [A ++ B, A ++ B, A ++ (B ++ [.row 6 [(.int .i64 x.kind :: .str x.name :: enc x.typ)] 0]), A ++ (B.set j .dead ++ [.row 6 [(.int .i64 x.kind :: .str x.name :: enc x.typ)] 0, .row 6 (sEs (s.take i) ++ [(.int .i64 x.kind :: .str x.name :: enc x.typ)]) 0])] 3 rfl (by kernel_rfl) (by kernel_rfl) (by kernel_rfl) (by kernel_rfl) (by kernel_rfl) (by kernel_rfl) ?_)
      simp only [zW, zX, zD, builtinA, isLeaf, const1, ustrA, simprocAttr, ti3, ti9, ti23, ti32, ti34, ca54, cf, Tryz.results32, he, hj, hg, enc_length, enc_take, sub_drop, frzL_enc, sub_closed, Option.map_some, sEs_length]
      refine ⟨pi, pi, pi, pi, pi, ?_⟩
      refine callE_intro (by simp only [zW, zX, zD, builtinA, isLeaf, const1, ustrA, simprocAttr, enc_length, enc_take, sub_drop, frzL_enc, sub_closed, Option.map_some] <;> rfl) (spec_l1Copy0 x.typ (hz x hmm) _) ?_ rfl rfl
      simp only [zW, zX, zD, builtinA, isLeaf, const1, ustrA, simprocAttr, ti3, ti9, ti23, ti32, ti34, ca54, cf, Tryz.results32, he, hj, hg, enc_length, enc_take, sub_drop, frzL_enc, sub_closed, Option.map_some, sEs_length, hl6]
      simp only [zW, zX, zD, builtinA, isLeaf, const1, ustrA, simprocAttr, ti3, ti9, ti23, ti32, ti34, ca54, cf, Tryz.results32, hi1, LoopK_eq]
      refine ⟨fun v hv => sE_leaf x v hv, ⟨fun r hr => by rw [List.mem_singleton.1 hr]; exact hl6 _ _ _, by rw [List.length_take]; omega⟩, ⟨i + 1, B.length + 1, B.set j .dead ++ [.row 6 [(.int .i64 x.kind :: .str x.name :: enc x.typ)] 0, .row 6 (sEs (s.take i) ++ [(.int .i64 x.kind :: .str x.name :: enc x.typ)]) 0], by omega, rfl, rfl, by simp, ?_⟩, ?_⟩
      · rw [getD_sapp, hsn]; rfl
      · simp only [intOf]
        omega
    · have : i = s.length := by simp at h2; omega
      subst this
      rw [List.take_length] at hg
      simp only [zW, zX, zD, builtinA, isLeaf, const1, ustrA, simprocAttr, ti3, ti9, ti23, ti32, ti34, ca54, cf, Tryz.results32, hg, hj]
      exact ⟨B, j, rfl, rfl, hj, hg⟩

theorem bEs_view (l : List BdI) (A : List Box) : ∀ k j, k < (bEs l).length → j < 6 → View A (Abs.rowAt (bEs l) k j) (Abs.rowAt (bEs l) k j) := by
  intro k j hk hj
  refine .leaf _ ?_
  rw [bEs_length] at hk
  simp only [Abs.rowAt, bEs_getD hk, bE]
  match j, hj with
  | 0, _ => rfl
  | 1, _ => rfl
  | 2, _ => rfl
  | 3, _ => rfl
  | 4, _ => rfl
  | 5, _ => rfl
theorem bEs_leaf (l : List BdI) : ∀ r ∈ bEs l, r.length = 6 ∧ ∀ v ∈ r, isLeaf v = true := by
  intro r hr
  obtain ⟨y, _, rfl⟩ := List.mem_map.mp hr
  exact ⟨rfl, bE_leaf y⟩
def nxtL (ys : List VI) : List (BNm × VT) := ys.foldl nxtM []
def fitL (ys : List VI) : Prop := ∀ i, i < ys.length → fitI (subI (nxtL (ys.take i)) (ys.getD i vi0)) = true

theorem nxtL_snoc (ys : List VI) {i : Nat} (h : i < ys.length) : nxtL (ys.take (i + 1)) = nxtM (nxtL (ys.take i)) (ys.getD i vi0) := by
  rw [nxtL, List.take_add_one, List.foldl_append]
  simp [List.getD, h, nxtL]
theorem nxtL_ok (ys : List VI) (hy : ∀ i, i < ys.length → VOk (meanI (ys.getD i vi0))) (hf : fitL ys) : ∀ i, i ≤ ys.length → ∀ x ∈ nxtL (ys.take i), VOk x.2
  | 0, _ => by simp [nxtL]
  | i + 1, h => by
    rw [nxtL_snoc ys (by omega)]
    have ih := nxtL_ok ys hy hf i (by omega)
    have h1 := hy i (by omega)
    have h2 := hf i (by omega)
    cases hq : ys.getD i vi0 with
    | ab n =>
      rw [hq] at h1
      simp only [nxtM, List.mem_append, List.mem_singleton]
      rintro x (hx | rfl)
      · exact ih x hx
      · exact h1
    | al n v =>
      rw [hq] at h1 h2
      simp only [nxtM, List.mem_append, List.mem_singleton]
      rintro x (hx | rfl)
      · exact ih x hx
      · simp only [fitI, subI, meanI, Bool.and_eq_true] at h2
        exact ⟨(sub_ok _ ih v h1.ok).1, of_decide_eq_true h2.1, of_decide_eq_true h2.2⟩
    | va n v => exact ih

end Go.Proofs.YtngheinmebopeaaGreat

/- What the two sides' readings of a signature have in common. -/
set_option linter.unusedVariables false
set_option linter.unusedSimpArgs false
namespace Go.Proofs.YtngheinmebopeaaGreat
open Go.Abs

theorem itemOf_isT {x : SigI} {y : VI} (h : ItemOf x y) (k : List UInt8) : (isTB x && decide (x.name = k)) = decide ((false, k) = viK y) := by
  rw [Bool.eq_iff_iff]
  cases y with
  | ab n => obtain ⟨h1, h2, h3⟩ := h; simp [isTB, h1, h2, viK, eq_comm]
  | al n v => obtain ⟨h1, h2, h3⟩ := h; simp [isTB, h1, h2, viK, eq_comm]
  | va n v => obtain ⟨h1, h2, h3⟩ := h; simp [isTB, h1, h2, viK]
theorem itemOf_same {x x' : SigI} {y y' : VI} (h : ItemOf x y) (h' : ItemOf x' y') : sameK x x' = decide (viK y = viK y') := by
  rw [Bool.eq_iff_iff]
  cases y <;> cases y' <;> (obtain ⟨h1, h2, _⟩ := h; obtain ⟨h3, h4, _⟩ := h'; simp [sameK, isTB, h1, h2, h3, h4, viK, eq_comm])
theorem hasT_keys {s : List SigI} {ys : List VI} (h : ReadsTo s ys) (k : List UInt8) : ∀ i, i ≤ s.length → hasT (s.take i) k = decide ((false, k) ∈ (ys.take i).map viK)
  | 0, _ => by simp [hasT]
  | i + 1, hi => by
    have hy : i < ys.length := by have := h.1; omega
    rw [hasT_take (by omega), keys_take hy, hasT_keys h k i (by omega), itemOf_isT (h.2 i (by omega)).2 k]
    rw [Bool.eq_iff_iff]; simp
theorem dup_keys {s : List SigI} {ys : List VI} (h : ReadsTo s ys) {x : SigI} {y : VI} (hx : ItemOf x y) : ∀ i, i ≤ s.length → dupB (s.take i) x = decide (viK y ∈ (ys.take i).map viK)
  | 0, _ => by simp [dupB]
  | i + 1, hi => by
    have hy : i < ys.length := by have := h.1; omega
    have e : dupB (s.take (i + 1)) x = (dupB (s.take i) x || sameK x (s.getD i si0)) := by rw [si_take (by omega)]; simp [dupB]
    rw [e, keys_take hy, dup_keys h hx i (by omega), itemOf_same hx (h.2 i (by omega)).2]
    rw [Bool.eq_iff_iff]; simp
theorem step_eq {s : List SigI} {ys : List VI} (h : ReadsTo s ys) {i : Nat} (hi : i < s.length) : itemB (s.take i) (s.getD i si0) = stepB (ys.take i) (ys.getD i vi0) := by
  obtain ⟨hl, hit⟩ := h.2 i hi
  have hk : knN (s.take i) = okN ((ys.take i).map viK) := by
    funext p
    rw [knN, okN, hasT_keys h p.2 i (by omega)]
  rw [itemB, stepB, hl, dup_keys h hit i (by omega), Bool.true_and, Bool.and_comm]
  congr 1
  generalize s.getD i si0 = x at *
  generalize ys.getD i vi0 = y at *
  cases y with
  | ab n => obtain ⟨h1, h2, h3⟩ := hit; simp [typB, h2, h3, allI]
  | al n v => obtain ⟨h1, h2, h3, h4⟩ := hit; rw [typB, if_neg (by omega), if_pos (.inl h2), h3, validB_toTy h4, knT_toTy, hk, allI, Bool.true_and]
  | va n v => obtain ⟨h1, h2, h3, h4⟩ := hit; rw [typB, if_neg (by omega), if_pos (.inr h2), h3, validB_toTy h4, knT_toTy, hk, allI, Bool.true_and]
theorem sigB_reads {s : List SigI} {ys : List VI} (h8 : s.length ≤ 8) (h : ReadsTo s ys) : sigB s = ordB ys := by
  rw [sigB, ordB, h.1, decide_eq_true h8, Bool.true_and, Bool.eq_iff_iff, List.all_eq_true, List.all_eq_true]
  constructor
  · intro k i hi
    rw [← step_eq h (List.mem_range.mp hi)]; exact k i hi
  · intro k i hi
    rw [step_eq h (List.mem_range.mp hi)]; exact k i hi
theorem sigB_bad {s : List SigI} (h : 8 < s.length ∨ ∃ x ∈ s, itemOk x = false) : sigB s = false := by
  rcases h with h | ⟨x, hx, hb⟩
  · rw [sigB, decide_eq_false (by omega), Bool.false_and]
  · obtain ⟨i, hi, rfl⟩ := List.getElem_of_mem hx
    refine sigB_no hi ?_
    have e : s.getD i si0 = s[i] := by simp [List.getD, hi]
    rw [e]
    generalize s[i] = x at hb
    rw [itemOk] at hb
    rw [itemB, typB]
    by_cases k1 : x.kind = 1
    · rw [if_pos k1] at hb ⊢
      cases hl : localB x.name with
      | false => rfl
      | true => rw [hl, Bool.true_and] at hb; rw [hb]; simp
    · rw [if_neg k1] at hb ⊢
      by_cases k2 : x.kind = 2 ∨ x.kind = 3
      · rw [if_pos k2] at hb ⊢
        cases hl : localB x.name with
        | false => rfl
        | true => rw [hl, Bool.true_and] at hb; rw [hb]; simp
      · rw [if_neg k2]; simp

end Go.Proofs.YtngheinmebopeaaGreat

/- The normal signature as data. -/
set_option linter.unusedVariables false
set_option linter.unusedSimpArgs false
namespace Go.Proofs.YtngheinmebopeaaGreat
open Go.Abs

def siOf : VI → SigI
  | .ab n => ⟨1, n, ty0⟩
  | .al n v => ⟨2, n, toTy v⟩
  | .va n v => ⟨3, n, toTy v⟩
theorem itemOf_si {x : SigI} {y : VI} (h : ItemOf x y) : x = siOf y := by
  obtain ⟨k, n, t⟩ := x
  cases y <;> simp only [ItemOf] at h
  · obtain ⟨rfl, rfl, rfl⟩ := h; rfl
  · obtain ⟨rfl, rfl, rfl, _⟩ := h; rfl
  · obtain ⟨rfl, rfl, rfl, _⟩ := h; rfl
theorem itemOf_of {y : VI} (h : VOk (meanI y)) : ItemOf (siOf y) y := by
  cases y with
  | ab n => exact ⟨rfl, rfl, rfl⟩
  | al n v => exact ⟨rfl, rfl, rfl, h⟩
  | va n v => exact ⟨rfl, rfl, rfl, h⟩
/-- the first items with normal types -/
def zsN (ys : List VI) (i : Nat) : List VI := (List.range i).map fun k => subI (nxtL (ys.take k)) (ys.getD k vi0)
theorem zsN_length (ys : List VI) (i : Nat) : (zsN ys i).length = i := by simp [zsN]
theorem zsN_succ (ys : List VI) (i : Nat) : zsN ys (i + 1) = zsN ys i ++ [subI (nxtL (ys.take i)) (ys.getD i vi0)] := by simp [zsN, List.range_succ]
theorem zsN_getD (ys : List VI) {i k : Nat} (h : k < i) : (zsN ys i).getD k vi0 = subI (nxtL (ys.take k)) (ys.getD k vi0) := by
  simp [zsN, List.getD, h]
theorem normL_from (ys : List VI) : ∀ n i, n = ys.length - i → i ≤ ys.length → (∀ k, k < i → fitI (subI (nxtL (ys.take k)) (ys.getD k vi0)) = true) → normL [] ys = (normL (nxtL (ys.take i)) (ys.drop i)).map (zsN ys i ++ ·)
  | _, 0, _, _, _ => by simp [zsN, nxtL]
  | n, i + 1, hn, hi, hk => by
    rw [normL_from ys (n + 1) i (by omega) (by omega) fun k h => hk k (by omega), vi_drop (show i < ys.length by omega), normL, if_pos (hk i (by omega)), nxtL_snoc ys (by omega), zsN_succ, Option.map_map]
    congr 1
    funext x
    simp
theorem normL_yes {ys : List VI} (hf : fitL ys) : normL [] ys = some (zsN ys ys.length) := by
  rw [normL_from ys 0 ys.length (by omega) (Nat.le_refl _) hf, List.drop_length, normL]
  simp
theorem normL_no {ys : List VI} {i : Nat} (hi : i < ys.length) (hf : ∀ k, k < i → fitI (subI (nxtL (ys.take k)) (ys.getD k vi0)) = true) (h : fitI (subI (nxtL (ys.take i)) (ys.getD i vi0)) = false) : normL [] ys = none := by
  rw [normL_from ys _ i rfl (by omega) hf, vi_drop hi, normL, if_neg (by rw [h]; simp)]
  rfl
theorem normL_fit {ys zs : List VI} (h : normL [] ys = some zs) : fitL ys ∧ zs = zsN ys ys.length := by
  have hf : fitL ys := by
    intro i hi
    cases hc : fitI (subI (nxtL (ys.take i)) (ys.getD i vi0)) with
    | true => rfl
    | false =>
      exfalso
      obtain ⟨j, hj, hmin⟩ : ∃ j, (j ≤ i ∧ fitI (subI (nxtL (ys.take j)) (ys.getD j vi0)) = false) ∧ ∀ k, k < j → fitI (subI (nxtL (ys.take k)) (ys.getD k vi0)) = true := by
        clear h
        induction i using Nat.strongRecOn with
        | _ i ih =>
          by_cases hx : ∀ k, k < i → fitI (subI (nxtL (ys.take k)) (ys.getD k vi0)) = true
          · exact ⟨i, ⟨Nat.le_refl _, hc⟩, hx⟩
          · simp only [Classical.not_forall] at hx
            obtain ⟨k, hk, hk2⟩ := hx
            obtain ⟨j, h1, h2⟩ := ih k hk (by omega) (by simpa using hk2)
            exact ⟨j, ⟨by omega, h1.2⟩, h2⟩
      rw [normL_no (by omega) hmin hj.2] at h
      cases h
  exact ⟨hf, by rw [normL_yes hf] at h; exact (Option.some.inj h).symm⟩
theorem zsN_ok {ys : List VI} (hy : ∀ i, i < ys.length → VOk (meanI (ys.getD i vi0))) (hf : fitL ys) {i : Nat} (hi : i < ys.length) : VOk (meanI (subI (nxtL (ys.take i)) (ys.getD i vi0))) := by
  have h1 := nxtL_ok ys hy hf i (by omega)
  have h2 := mean_sub h1 (hy i hi)
  have h3 := hf i hi
  simp only [fitI, Bool.and_eq_true, decide_eq_true_eq] at h3
  exact ⟨h2.1, h3.1, h3.2⟩
theorem siOf_name (y : VI) : (siOf y).name = (viK y).2 := by cases y <;> rfl
end Go.Proofs.YtngheinmebopeaaGreat

/- Marks that the laws write into what is owned. -/
set_option linter.unusedVariables false
set_option linter.unusedSimpArgs false
namespace Go.Proofs.YtngheinmebopeaaGreat
open Go.Abs

theorem OwnR.append {A : List Box} : ∀ {k1 k2 : List Ty} {r1 r2 : List (List AV)} {S1 S2 : List Nat}, OwnR A k1 r1 S1 → OwnR A k2 r2 S2 → OwnR A (k1 ++ k2) (r1 ++ r2) (S1 ++ S2)
  | [], k2, r1, r2, S1, S2, h1, h2 => by
    rw [OwnR] at h1
    rw [h1.1, h1.2]; exact h2
  | t :: k1, k2, r1, r2, S1, S2, h1, h2 => by
    rw [OwnR] at h1
    obtain ⟨r, r', T1, T2, rfl, rfl, h3, h4⟩ := h1
    rw [List.cons_append, OwnR]
    exact ⟨r, r' ++ r2, T1, T2 ++ S2, by simp, by simp, h3, OwnR.append h4 h2⟩









/-! ### reading what is owned -/
theorem borrow0 {P : Program} {f : FuncId} {args args' : List AV} {A : List Box} {x : AV} (hv : Views A args args') (hx : ifree x = true) (h : ∀ A, ACalls P f args' A (fun v A' => v = x ∧ A' = A)) : ACalls P f args A (fun v A' => v = x ∧ A' = A) :=
  ACalls.borrow hv ((h _).mono fun v A' ⟨h1, h2⟩ => ⟨[], by rw [h2, List.append_nil], by rw [h1]; exact hx, by simp, h1, by simp⟩)
end Go.Proofs.YtngheinmebopeaaGreat

/- A law's argument, a type, as memory of its own. -/
set_option linter.unusedVariables false
set_option linter.unusedSimpArgs false
namespace Go.Proofs.YtngheinmebopeaaGreat
open Go.Abs

theorem getD_repl {α : Type} {n i : Nat} {x d : α} (h : i < n) : (List.replicate n x).getD i d = x := by simp [List.getD, h]
end Go.Proofs.YtngheinmebopeaaGreat

/- Marks in a list of items that is owned. -/
set_option linter.unusedVariables false
set_option linter.unusedSimpArgs false
namespace Go.Proofs.YtngheinmebopeaaGreat
open Go.Abs

theorem enc4s (t : Ty) : enc t = [.int .i64 t.kind, .str t.mod, .str t.name, .slice (encs t.kids)] := by cases t; rw [enc]; rfl
theorem sE6 (x : SigI) : sE x = [.int .i64 x.kind, .str x.name, .int .i64 x.typ.kind, .str x.typ.mod, .str x.typ.name, .slice (encs x.typ.kids)] := by rw [sE, enc4s]
def sRow (b : SigI) (v : AV) : List AV := [.int .i64 b.kind, .str b.name, .int .i64 b.typ.kind, .str b.typ.mod, .str b.typ.name, v]
def OwnG (A : List Box) : List SigI → List (List AV) → List Nat → Prop
  | [], rows, S => rows = [] ∧ S = []
  | b :: bs, rows, S => ∃ v rows' S1 S2, rows = sRow b v :: rows' ∧ S = S1 ++ S2 ∧ OwnK A b.typ.kids v S1 ∧ OwnG A bs rows' S2
theorem OwnG.frame {A A' : List Box} : ∀ {bs : List SigI} {rows : List (List AV)} {S : List Nat}, OwnG A bs rows S → (∀ i ∈ S, A'.getD i .dead = A.getD i .dead) → OwnG A' bs rows S
  | [], rows, S, h, hf => h
  | b :: bs, rows, S, h, hf => by
    rw [OwnG] at h ⊢
    obtain ⟨v, rows', S1, S2, h1, rfl, h3, h4⟩ := h
    exact ⟨v, rows', S1, S2, h1, rfl, h3.frame fun j hj => hf j (by simp [hj]), OwnG.frame h4 fun j hj => hf j (by simp [hj])⟩
theorem OwnG.length {A : List Box} : ∀ {bs : List SigI} {rows : List (List AV)} {S : List Nat}, OwnG A bs rows S → rows.length = bs.length
  | [], rows, S, h => by rw [OwnG] at h; rw [h.1]; rfl
  | b :: bs, rows, S, h => by
    rw [OwnG] at h
    obtain ⟨v, rows', S1, S2, rfl, h2, h3, h4⟩ := h
    simp [OwnG.length h4]
theorem OwnG.low {A : List Box} : ∀ {bs : List SigI} {rows : List (List AV)} {S : List Nat}, OwnG A bs rows S → ∀ i ∈ S, i < A.length
  | [], rows, S, h => by rw [OwnG] at h; rw [h.2]; simp
  | b :: bs, rows, S, h => by
    rw [OwnG] at h
    obtain ⟨v, rows', S1, S2, h1, rfl, h3, h4⟩ := h
    intro j hj
    rcases List.mem_append.1 hj with hj | hj
    · exact h3.low j hj
    · exact OwnG.low h4 j hj
theorem OwnG.append {A : List Box} : ∀ {k1 k2 : List SigI} {r1 r2 : List (List AV)} {S1 S2 : List Nat}, OwnG A k1 r1 S1 → OwnG A k2 r2 S2 → OwnG A (k1 ++ k2) (r1 ++ r2) (S1 ++ S2)
  | [], k2, r1, r2, S1, S2, h1, h2 => by
    rw [OwnG] at h1
    rw [h1.1, h1.2]; exact h2
  | t :: k1, k2, r1, r2, S1, S2, h1, h2 => by
    rw [OwnG] at h1
    obtain ⟨v, r', T1, T2, rfl, rfl, h3, h4⟩ := h1
    rw [List.cons_append, OwnG]
    exact ⟨v, r' ++ r2, T1, T2 ++ S2, by simp, by simp, h3, OwnG.append h4 h2⟩
theorem OwnG.view {A : List Box} : ∀ {bs : List SigI} {rows : List (List AV)} {S : List Nat}, OwnG A bs rows S → ∀ k, k < rows.length → ∀ j, j < 6 → View A ((rows.getD k []).getD j .bot) ((sE (bs.getD k si0)).getD j .bot)
  | [], rows, S, h => by rw [OwnG] at h; rw [h.1]; intro k hk; simp at hk
  | b :: bs, rows, S, h => by
    rw [OwnG] at h
    obtain ⟨v, rows', S1, S2, rfl, h2, h3, h4⟩ := h
    intro k hk j hj
    cases k with
    | zero =>
      have hv := h3.view
      have e0 : (sE ((b :: bs).getD 0 si0)) = sE b := rfl
      rw [e0, sE6]
      match j, hj with
      | 0, _ => exact .leaf _ rfl
      | 1, _ => exact .leaf _ rfl
      | 2, _ => exact .leaf _ rfl
      | 3, _ => exact .leaf _ rfl
      | 4, _ => exact .leaf _ rfl
      | 5, _ => exact hv
    | succ k =>
      have := OwnG.view h4 k (by simpa using hk) j hj
      simpa using this
theorem OwnG.viewG {A : List Box} {bs : List SigI} {rows : List (List AV)} {S : List Nat} {i : Nat} (h : A.getD i .dead = .gr none 6 rows) (hb : OwnG A bs rows S) : View A (.own i) (.slice (sEs bs)) := by
  refine .gr i 6 none rows (sEs bs) h (by rw [sEs_length, hb.length]) (fun r hr => ?_) fun k j hk hj => ?_
  · obtain ⟨t, _, rfl⟩ := List.mem_map.1 hr
    exact ⟨sE_length t, sE_leaf t⟩
  · unfold Abs.rowAt
    rw [sEs_getD (by rw [← hb.length]; exact hk)]
    exact hb.view k hk j hj
/-- new memory that holds a list of bindings -/
def NewG (A : List Box) (bs : List SigI) (j : Nat) (A' : List Box) : Prop :=
  A.length ≤ A'.length ∧ (∀ k, k < A.length → A'.getD k .dead = A.getD k .dead) ∧ ∃ rows S, A'.getD j .dead = .gr none 6 rows ∧ OwnG A' bs rows S ∧ (j :: S).Nodup ∧ ∀ i ∈ j :: S, A.length ≤ i



end Go.Proofs.YtngheinmebopeaaGreat

namespace Go.Proofs.YtngheinmebopeaaGreat
open Go.Abs

/-- a list of items that is owned, or none -/
def OwnI (A : List Box) (xs : List SigI) (v : AV) (S : List Nat) : Prop :=
  (v = .nils ∧ xs = [] ∧ S = []) ∨ ∃ i rows S', v = .own i ∧ S = i :: S' ∧ A.getD i .dead = .gr none 6 rows ∧ OwnG A xs rows S'
theorem OwnI.frame {A A' : List Box} {xs : List SigI} {v : AV} {S : List Nat} (h : OwnI A xs v S) (hf : ∀ i ∈ S, A'.getD i .dead = A.getD i .dead) : OwnI A' xs v S := by
  rcases h with h | ⟨i, rows, S', h1, h2, h3, h4⟩
  · exact .inl h
  · subst h2
    exact .inr ⟨i, rows, S', h1, rfl, by rw [hf i (by simp)]; exact h3, h4.frame fun j hj => hf j (by simp [hj])⟩
theorem OwnI.low {A : List Box} {xs : List SigI} {v : AV} {S : List Nat} (h : OwnI A xs v S) : ∀ i ∈ S, i < A.length := by
  rcases h with ⟨_, _, rfl⟩ | ⟨i, rows, S', h1, rfl, h3, h4⟩
  · simp
  · intro j hj
    rcases List.mem_cons.1 hj with rfl | hj
    · exact live_lt h3 (by simp)
    · exact h4.low j hj
theorem OwnI.view {A : List Box} {xs : List SigI} {v : AV} {S : List Nat} (h : OwnI A xs v S) : View A v (.slice (sEs xs)) := by
  rcases h with ⟨rfl, rfl, _⟩ | ⟨i, rows, S', rfl, _, h3, h4⟩
  · exact .nils
  · exact OwnG.viewG h3 h4

end Go.Proofs.YtngheinmebopeaaGreat

namespace Go.Proofs.YtngheinmebopeaaGreat
open Go.Abs

def totG : List SigI → Nat
  | [] => 0
  | b :: bs => 5 + 3 * counts b.typ.kids + totG bs
end Go.Proofs.YtngheinmebopeaaGreat

/- What a signature's method plain makes: items that are owned. -/
set_option linter.unusedVariables false
set_option linter.unusedSimpArgs false
namespace Go.Proofs.YtngheinmebopeaaGreat
open Go.Abs

/-- new cells that hold an item -/
def NewS (A : List Box) (x : SigI) (cs : List AV) (A' : List Box) : Prop :=
  A.length ≤ A'.length ∧ (∀ k, k < A.length → A'.getD k .dead = A.getD k .dead) ∧ ∃ v S, cs = sRow x v ∧ OwnK A' x.typ.kids v S ∧ S.Nodup ∧ (∀ i ∈ S, A.length ≤ i) ∧ (v = .nils ∨ ∃ i, v = .own i)
def PlI (y : VI) : Prop := ∀ A, ACalls Tryz.prog ((pickI 96 109 115) y) [viX y] A (fun r A' => ∃ cs, r = .agg cs ∧ NewS A (siOf y) cs A')
theorem prow_row (x : SigI) (w : VT) (h : x.typ = toTy w) (n : Nat) : ∃ v, prow w n true = [.int .i64 x.typ.kind, .str x.typ.mod, .str x.typ.name, v] ∧ (v = .nils ∨ ∃ i, v = .own i) := by
  rw [h]
  cases w with
  | num => exact ⟨_, rfl, .inl rfl⟩
  | nm m k => exact ⟨_, rfl, .inl rfl⟩
  | fn a b => exact ⟨_, rfl, .inr ⟨_, rfl⟩⟩
theorem newS_of {A : List Box} {x : SigI} {w : VT} (h : x.typ = toTy w) {B0 B1 : List Box} {n : Nat} (hn : n = A.length + B0.length) : NewS A x (.int .i64 x.kind :: .str x.name :: prow w n true) (A ++ (B0 ++ (pbox w n ++ B1))) := by
  obtain ⟨v, hv, hv2⟩ := prow_row x w h n
  have ho := own_plain w n true (A ++ (B0 ++ (pbox w n ++ B1))) fun k hk => by
    rw [Abs.getD_append_right (by omega), Abs.getD_append_right (by omega), Abs.getD_append_left (by rw [pbox_length]; omega)]
    congr 1; omega
  rw [hv] at ho
  refine ⟨by simp, fun k hk => Abs.getD_append_left hk, v, pidx w n, by rw [hv]; rfl, ?_, pidx_nodup _ _, fun i hi => by have := pidx_in _ _ i hi; omega, hv2⟩
  rw [h]
  cases ht : toTy w with
  | mk k m n ks =>
    rw [ht, ownT_mk] at ho
    obtain ⟨v', e, hK⟩ := ho
    simp only [List.cons.injEq, and_true] at e
    rw [e.2.2.2]
    exact hK
set_option maxRecDepth 100000 in
theorem ab_plain (n : List UInt8) : PlI (.ab n) := fun A => by
  show ACalls Tryz.prog 96 _ _ _
  rw [viX]
  refine acalls_enterK (cf := cf 6 [0, 1, 2]) foll Tryz.func96 Tryz.ntmps96 (by simp [cf]) ?_
  simp only [Tryz.f96, EnterK_some, zW, zX, zD, builtinA, isLeaf, const1, ustrA, simprocAttr, ti9, ti34, ti96, cf, Tryz.results96]
  exact ⟨_, rfl, by simp, fun k hk => Abs.getD_append_left hk, .nils, [], rfl, .inl ⟨rfl, rfl, rfl⟩, by simp, by simp, .inl rfl⟩
set_option maxRecDepth 100000 in
theorem al_plain (n : List UInt8) (v : VT) : PlI (.al n v) := fun A => by
  show ACalls Tryz.prog 109 _ _ _
  have cv : ACalls Tryz.prog ((pickF 121 128 102) v) [vX v] (A ++ [Box.cells [.str n, .iface (vT v) (vX v)], Box.cells [.int .i64 0, .str [], .int .i64 0, .str [], .str [], .nils]]) (fun r A' => r = .agg (prow v (A.length + 2) true) ∧ A' = A ++ (Box.cells [.str n, .iface (vT v) (vX v)] :: Box.cells [.int .i64 0, .str [], .int .i64 0, .str [], .str [], .nils] :: pbox v (A.length + 2))) := by
    have := plainM v (A ++ [Box.cells [.str n, .iface (vT v) (vX v)], Box.cells [.int .i64 0, .str [], .int .i64 0, .str [], .str [], .nils]])
    simpa using this
  have hpl : ∀ n, (prow v n true).length = 4 := fun n => prow_length _ _ _
  rw [viX]
  refine acalls_enterK (cf := cf 9 [0, 1, 2]) foll Tryz.func109 Tryz.ntmps109 (by simp [cf]) ?_
  simp only [Tryz.f109, EnterK_some, zW, zX, zD, builtinA, isLeaf, const1, ustrA, simprocAttr, ti9, ti34, ti69, ti101, cf, Tryz.results109]
  refine .inr (drawE_intro [(false, 0, 1), (false, 0, 1), (false, 0, 0), (false, 0, 0), (true, 0, 0), (false, 1, 1), (true, 1, 1)] [A ++ [Box.cells [.str n, .iface (vT v) (vX v)], Box.cells [.int .i64 0, .str [], .int .i64 0, .str [], .str [], .nils]], A ++ (Box.cells [.str n, .iface (vT v) (vX v)] :: Box.cells [.int .i64 0, .str [], .int .i64 0, .str [], .str [], .nils] :: pbox v (A.length + 2)), A ++ (Box.cells [.str n, .iface (vT v) (vX v)] :: Box.cells (.int .i64 2 :: .str n :: prow v (A.length + 2) true) :: pbox v (A.length + 2))] 2 rfl (by kernel_rfl) (by kernel_rfl) (by kernel_rfl) (by kernel_rfl) (by kernel_rfl) (by kernel_rfl) ?_)
  simp only [zW, zX, zD, builtinA, isLeaf, const1, ustrA, simprocAttr, ti9, ti34, ti69, ti101, cf, Tryz.results109]
  refine wpG_invoke _ _ _ _ _ _ _ _ _ _ _ _ _ _ _ _ _ _ ?_
  simp only [zW, zX, zD, builtinA, isLeaf, const1, ustrA, simprocAttr, ti9, ti34, ti69, ti101, cf, Tryz.results109]
  refine meth_invE (met3 (by kernel_rfl) (by kernel_rfl) (by kernel_rfl) (by kernel_rfl) (by kernel_rfl) (by kernel_rfl)) cv rfl ?_
  simp only [zW, zX, zD, builtinA, isLeaf, const1, ustrA, simprocAttr, ti9, ti34, ti69, ti101, cf, Tryz.results109, hpl]
  rw [List.take_of_length_le (Nat.le_of_eq (hpl _))]
  have h := newS_of (A := A) (x := siOf (.al n v)) (w := v) rfl (B0 := [Box.cells [.str n, .iface (vT v) (vX v)], Box.cells (.int .i64 2 :: .str n :: prow v (A.length + 2) true)]) (B1 := []) (n := A.length + 2) rfl
  rw [List.append_nil] at h
  exact ⟨_, rfl, h⟩
set_option maxRecDepth 100000 in
theorem va_plain (n : List UInt8) (v : VT) : PlI (.va n v) := fun A => by
  show ACalls Tryz.prog 115 _ _ _
  have cv : ACalls Tryz.prog ((pickF 121 128 102) v) [vX v] (A ++ [Box.cells [.str n, .iface (vT v) (vX v)], Box.cells [.int .i64 0, .str [], .int .i64 0, .str [], .str [], .nils]]) (fun r A' => r = .agg (prow v (A.length + 2) true) ∧ A' = A ++ (Box.cells [.str n, .iface (vT v) (vX v)] :: Box.cells [.int .i64 0, .str [], .int .i64 0, .str [], .str [], .nils] :: pbox v (A.length + 2))) := by
    have := plainM v (A ++ [Box.cells [.str n, .iface (vT v) (vX v)], Box.cells [.int .i64 0, .str [], .int .i64 0, .str [], .str [], .nils]])
    simpa using this
  have hpl : ∀ n, (prow v n true).length = 4 := fun n => prow_length _ _ _
  rw [viX]
  refine acalls_enterK (cf := cf 9 [0, 1, 2]) foll Tryz.func115 Tryz.ntmps115 (by simp [cf]) ?_
  simp only [Tryz.f115, EnterK_some, zW, zX, zD, builtinA, isLeaf, const1, ustrA, simprocAttr, ti9, ti34, ti69, ti119, cf, Tryz.results115]
  refine .inr (drawE_intro [(false, 0, 1), (false, 0, 1), (false, 0, 0), (false, 0, 0), (true, 0, 0), (false, 1, 1), (true, 1, 1)] [A ++ [Box.cells [.str n, .iface (vT v) (vX v)], Box.cells [.int .i64 0, .str [], .int .i64 0, .str [], .str [], .nils]], A ++ (Box.cells [.str n, .iface (vT v) (vX v)] :: Box.cells [.int .i64 0, .str [], .int .i64 0, .str [], .str [], .nils] :: pbox v (A.length + 2)), A ++ (Box.cells [.str n, .iface (vT v) (vX v)] :: Box.cells (.int .i64 3 :: .str n :: prow v (A.length + 2) true) :: pbox v (A.length + 2))] 2 rfl (by kernel_rfl) (by kernel_rfl) (by kernel_rfl) (by kernel_rfl) (by kernel_rfl) (by kernel_rfl) ?_)
  simp only [zW, zX, zD, builtinA, isLeaf, const1, ustrA, simprocAttr, ti9, ti34, ti69, ti119, cf, Tryz.results115]
  refine wpG_invoke _ _ _ _ _ _ _ _ _ _ _ _ _ _ _ _ _ _ ?_
  simp only [zW, zX, zD, builtinA, isLeaf, const1, ustrA, simprocAttr, ti9, ti34, ti69, ti119, cf, Tryz.results115]
  refine meth_invE (met3 (by kernel_rfl) (by kernel_rfl) (by kernel_rfl) (by kernel_rfl) (by kernel_rfl) (by kernel_rfl)) cv rfl ?_
  simp only [zW, zX, zD, builtinA, isLeaf, const1, ustrA, simprocAttr, ti9, ti34, ti69, ti119, cf, Tryz.results115, hpl]
  rw [List.take_of_length_le (Nat.le_of_eq (hpl _))]
  have h := newS_of (A := A) (x := siOf (.va n v)) (w := v) rfl (B0 := [Box.cells [.str n, .iface (vT v) (vX v)], Box.cells (.int .i64 3 :: .str n :: prow v (A.length + 2) true)]) (B1 := []) (n := A.length + 2) rfl
  rw [List.append_nil] at h
  exact ⟨_, rfl, h⟩
theorem plI : ∀ y, PlI y
  | .ab n => ab_plain n
  | .al n v => al_plain n v
  | .va n v => va_plain n v

set_option maxRecDepth 100000 in
set_option maxHeartbeats 4000000 in
theorem impl_plainItems (ys : List VI) (hl : ys.length ≤ 1000) (A : List Box) : ACalls Tryz.prog 44 [.slice (vRows ys)] A (fun r A' => ∃ j, r = .own j ∧ NewG A (ys.map siOf) j A') := by
  have hl2 : ((vRows ys).length : Int) ≤ 1000 := by rw [vRows_length]; omega
  refine ACalls.grow ?_
  refine acalls_enterK (cf := cf 23 [0, 2, 3, 4, 5, 9, 10, 11, 12]) foll Tryz.func44 Tryz.ntmps44 (by simp [cf]) ?_
  simp only [Tryz.f44, EnterK_some, zW, zX, zD, builtinA, isLeaf, const1, ustrA, simprocAttr, ti3, ti23, ti34, ti50, ti91, cf, Tryz.results44]
  refine ⟨⟨by omega, by omega, by omega⟩, ?_⟩
  refine aloop_intro [3, 9, 10, 11] (fun e A' => ∃ (p : Nat) (rl : List (List AV)) (SL : List Nat) (g : Bool), p ≤ ys.length ∧ e = [(3, .own A.length), (9, .slice (vRows ys)), (10, .int .i64 ys.length), (11, .int .i64 p)] ∧ A'.getD A.length .dead = (bif g then .gr none 6 (rl ++ List.replicate (ys.length - p) zsi) else .row 6 (rl ++ List.replicate (ys.length - p) zsi) 0) ∧
    rl.length = p ∧ OwnG A' ((ys.map siOf).take p) rl SL ∧ SL.Nodup ∧ (∀ i ∈ SL, A.length < i) ∧ A.length < A'.length ∧ ∀ k, k < A.length → A'.getD k .dead = A.getD k .dead) (fun e _ => ys.length - (intOf (Abs.look 11 e)).toNat) ?_ ?_
  · simp only [zW, zX, zD, builtinA, isLeaf, const1, ustrA, simprocAttr, ti3, ti23, ti34, ti50, ti91, cf, Tryz.results44, vRows_length]
    refine ⟨0, [], [], false, by omega, rfl, ?_, rfl, by simp [OwnG], by simp, by simp, by simp, fun k hk => Abs.getD_append_left hk⟩
    rfl
  · rintro e A' ⟨p, rl, SL, g, hp, rfl, hb, hrl, hO, hN, hlo, hlt, hfr⟩
    by_cases hp2 : p < ys.length
    · have d2 : decide ((p : Int) < (ys.length : Int)) = true := by simp; omega
      have he := vRows_getD hp2
      have hsi : ((ys.map siOf).take p ++ [siOf (ys.getD p vi0)]) = (ys.map siOf).take (p + 1) := by
        rw [List.take_add_one]; simp [List.getD, hp2]
      generalize hyv : ys.getD p vi0 = y at *
      rw [vRow] at he
      simp only [zW, zX, zD, builtinA, isLeaf, const1, ustrA, simprocAttr, ti3, ti23, ti34, ti50, ti91, cf, Tryz.results44, vRows_length, d2, he]
      refine ⟨⟨by omega, by omega⟩, ?_⟩
      refine wpO_invoke _ _ _ _ _ _ _ _ _ _ _ _ _ _ _ _ ?_
      simp only [zW, zX, zD, builtinA, isLeaf, const1, ustrA, simprocAttr, ti3, ti23, ti34, ti50, ti91, cf, Tryz.results44]
      refine methI_invK (metI3 (by kernel_rfl) (by kernel_rfl) (by kernel_rfl) (by kernel_rfl) (by kernel_rfl) (by kernel_rfl)) (plI y _) rfl (fun _ => rfl) ?_
      rintro r A3 ⟨cs, rfl, hle, hf3, v, S, rfl, hK, hND, hge, hv⟩
      have hi1 : IntKind.i64.wrap ((p : Int) + 1) = ((p + 1 : Nat) : Int) := by rw [wrap64 (by omega) (by omega)]; rfl
      have hb3 : A3.getD A.length .dead = (bif g then .gr none 6 (rl ++ List.replicate (ys.length - p) zsi) else .row 6 (rl ++ List.replicate (ys.length - p) zsi) 0) := by rw [hf3 _ hlt]; exact hb
      have hz : ∀ v, (rl ++ List.replicate (ys.length - p) zsi).set p (sRow (siOf y) v) = (rl ++ [sRow (siOf y) v]) ++ List.replicate (ys.length - (p + 1)) zsi := fun v => by
        rw [show ys.length - p = (ys.length - (p + 1)) + 1 by omega, List.replicate_succ, List.set_append_right _ _ (by omega), hrl, Nat.sub_self]
        simp
      have hlr : (rl ++ List.replicate (ys.length - p) zsi).length = ys.length := by simp; omega
      have hdz : List.drop 6 ((rl ++ List.replicate (ys.length - p) zsi).getD p []) = [] := by
        rw [Abs.getD_append_right (by omega), hrl, Nat.sub_self, getD_repl (by omega)]; rfl
      have hpr : (0 : Int) ≤ (p : Int) ∧ (p : Int) < ((ys.length : Nat) : Int) := ⟨by omega, by omega⟩
      have fin : ∀ (g' : Bool) (v : AV) (Z : Box), OwnK A3 (siOf y).typ.kids v S → Z = (bif g' then Box.gr none 6 ((rl ++ [sRow (siOf y) v]) ++ List.replicate (ys.length - (p + 1)) zsi) else .row 6 ((rl ++ [sRow (siOf y) v]) ++ List.replicate (ys.length - (p + 1)) zsi) 0) → ∃ (p' : Nat) (rl' : List (List AV)) (SL' : List Nat) (g' : Bool), p' ≤ ys.length ∧ [(3, AV.own A.length), (9, .slice (vRows ys)), (10, .int .i64 ys.length), (11, .int .i64 ((p + 1 : Nat) : Int))] = [(3, .own A.length), (9, .slice (vRows ys)), (10, .int .i64 ys.length), (11, .int .i64 p')] ∧ (A3.set A.length Z).getD A.length .dead = (bif g' then .gr none 6 (rl' ++ List.replicate (ys.length - p') zsi) else .row 6 (rl' ++ List.replicate (ys.length - p') zsi) 0) ∧
          rl'.length = p' ∧ OwnG (A3.set A.length Z) ((ys.map siOf).take p') rl' SL' ∧ SL'.Nodup ∧ (∀ i ∈ SL', A.length < i) ∧ A.length < (A3.set A.length Z).length ∧ ∀ k, k < A.length → (A3.set A.length Z).getD k .dead = A.getD k .dead := fun g' v Z hK hZ => by
        have hlt3 : A.length < A3.length := by omega
        have low := hO.low
        refine ⟨p + 1, rl ++ [sRow (siOf y) v], SL ++ S, g', by omega, rfl, ?_, by simp [hrl], ?_, ?_, ?_, by simpa using hlt3, fun k hk => ?_⟩
        · rw [getD_set_self hlt3]; exact hZ
        · rw [← hsi]
          refine (hO.frame fun i hi => ?_).append ?_
          · have h1 := hlo i hi
            have h2 := low i hi
            rw [getD_set_ne' (by omega), hf3 i h2]
          · rw [OwnG]
            refine ⟨v, [], S, [], rfl, by simp, hK.frame fun i hi => ?_, by simp [OwnG]⟩
            have := hge i hi
            rw [getD_set_ne' (by omega)]
        · refine List.nodup_append.2 ⟨hN, hND, fun x hx y hy => ?_⟩
          have := low x hx
          have := hge y hy
          omega
        · intro i hi
          rcases List.mem_append.1 hi with hi | hi
          · exact hlo i hi
          · have := hge i hi; omega
        · rw [getD_set_ne' (by omega), hf3 k (by omega), hfr k hk]
      have lf : ∀ w ∈ sRow (siOf y) (.slice []), isLeaf w = true := by simp [sRow, isLeaf]
      have el : ∀ w ∈ sRow (siOf y) (.slice []), isElem w = true := by simp [sRow, isElem, isLeaf]
      have el2 : ∀ i, ∀ w ∈ sRow (siOf y) (.own i), isElem w = true := by simp [sRow, isElem, isLeaf]
      have mz : ∀ {P : Prop}, P → P ∧ ys.length - (intOf (AV.int .i64 ((p + 1 : Nat) : Int))).toNat < ys.length - (intOf (AV.int .i64 (p : Int))).toNat := fun h => ⟨h, by simp only [intOf]; omega⟩
      rcases hv with rfl | ⟨i, rfl⟩
      · have hK2 : OwnK A3 (siOf y).typ.kids (.slice []) S := by
          rcases hK with ⟨_, h1, h2⟩ | ⟨h0, _⟩ | ⟨i, _, _, h0, _⟩
          · exact .inr (.inl ⟨rfl, h1, h2⟩)
          · cases h0
          · cases h0
        have fin2 := fun g' Z => fin g' (.slice []) Z hK2
        have hz2 := hz (.slice [])
        clear fin hz
        simp only [sRow] at hz2 fin2 lf el ⊢
        cases g with
        | false =>
          simp only [cond_false] at hb3
          simp only [zW, zX, zD, builtinA, isLeaf, const1, ustrA, simprocAttr, ti3, ti23, ti34, ti50, ti91, cf, Tryz.results44, hb3, hlr, hz2, hdz, hi1, LoopK_eq]
          exact ⟨hpr, ⟨by omega, by omega, fun w hw => lf w hw⟩, mz (by simpa only [cond_false, cond_true, List.append_assoc, List.cons_append, List.nil_append, List.length_set] using fin2 false _ rfl)⟩
        | true =>
          simp only [cond_true] at hb3
          simp only [zW, zX, zD, builtinA, isLeaf, const1, ustrA, simprocAttr, ti3, ti23, ti34, ti50, ti91, cf, Tryz.results44, hb3, hlr, hz2, hdz, hi1, LoopK_eq]
          exact ⟨hpr, ⟨by omega, fun w hw => el w hw⟩, mz (by simpa only [cond_false, cond_true, List.append_assoc, List.cons_append, List.nil_append, List.length_set] using fin2 true _ rfl)⟩
      · obtain ⟨rws, hg⟩ : ∃ rws, A3.getD i .dead = .gr none 4 rws := by
          rcases hK with ⟨h0, _⟩ | ⟨h0, _⟩ | ⟨i', rws, _, h0, _, hg, _⟩
          · cases h0
          · cases h0
          · cases h0; exact ⟨rws, hg⟩
        have fin2 := fun g' Z => fin g' (.own i) Z hK
        have hz2 := hz (.own i)
        clear fin hz
        simp only [sRow] at hz2 fin2 el2 ⊢
        cases g with
        | false =>
          simp only [cond_false] at hb3
          simp only [zW, zX, zD, builtinA, isLeaf, const1, ustrA, simprocAttr, ti3, ti23, ti34, ti50, ti91, cf, Tryz.results44, hb3, hg, hlr, hz2, hdz, hi1, LoopK_eq]
          exact ⟨hpr, ⟨by omega, fun w hw => el2 i w hw⟩, mz (by simpa only [cond_false, cond_true, List.append_assoc, List.cons_append, List.nil_append, List.length_set] using fin2 true _ rfl)⟩
        | true =>
          simp only [cond_true] at hb3
          simp only [zW, zX, zD, builtinA, isLeaf, const1, ustrA, simprocAttr, ti3, ti23, ti34, ti50, ti91, cf, Tryz.results44, hb3, hg, hlr, hz2, hdz, hi1, LoopK_eq]
          exact ⟨hpr, ⟨by omega, fun w hw => el2 i w hw⟩, mz (by simpa only [cond_false, cond_true, List.append_assoc, List.cons_append, List.nil_append, List.length_set] using fin2 true _ rfl)⟩
    · have d2 : decide ((p : Int) < (ys.length : Int)) = false := by simp; omega
      have e : p = ys.length := by omega
      subst e
      simp only [zW, zX, zD, builtinA, isLeaf, const1, ustrA, simprocAttr, ti3, ti23, ti34, ti50, ti91, cf, Tryz.results44, d2]
      rw [List.take_of_length_le (by simp)] at hO
      have low := hO.low
      have hnd : (A.length :: SL).Nodup := List.nodup_cons.2 ⟨fun h => by have := hlo _ h; omega, hN⟩
      have hge : ∀ i ∈ A.length :: SL, A.length ≤ i := fun i hi => by
        rcases List.mem_cons.1 hi with rfl | hi
        · exact Nat.le_refl _
        · have := hlo i hi; omega
      have e0 : rl ++ List.replicate (ys.length - ys.length) zsi = rl := by simp
      rw [e0] at hb
      cases g with
      | false => exact .inr ⟨A.length, 6, rl, hb, A.length, rfl, by simp; omega, fun k hk => by rw [getD_set_ne' (by omega)]; exact hfr k hk, rl, SL, getD_set_self hlt, hO.frame fun i hi => by have := hlo i hi; rw [getD_set_ne' (by omega)], hnd, hge⟩
      | true => exact .inl ⟨A.length, rfl, by omega, hfr, rl, SL, hb, hO, hnd, hge⟩
end Go.Proofs.YtngheinmebopeaaGreat

/- Lists of bindings as memory of their own. -/
set_option linter.unusedVariables false
set_option linter.unusedSimpArgs false
namespace Go.Proofs.YtngheinmebopeaaGreat
open Go.Abs

def bRow (b : BdI) (v : AV) : List AV := [.str b.mod, .str b.name, .int .i64 b.typ.kind, .str b.typ.mod, .str b.typ.name, v]
def OwnB (A : List Box) : List BdI → List (List AV) → List Nat → Prop
  | [], rows, S => rows = [] ∧ S = []
  | b :: bs, rows, S => ∃ v rows' S1 S2, rows = bRow b v :: rows' ∧ S = S1 ++ S2 ∧ OwnK A b.typ.kids v S1 ∧ OwnB A bs rows' S2
theorem OwnB.frame {A A' : List Box} : ∀ {bs : List BdI} {rows : List (List AV)} {S : List Nat}, OwnB A bs rows S → (∀ i ∈ S, A'.getD i .dead = A.getD i .dead) → OwnB A' bs rows S
  | [], rows, S, h, hf => h
  | b :: bs, rows, S, h, hf => by
    rw [OwnB] at h ⊢
    obtain ⟨v, rows', S1, S2, h1, rfl, h3, h4⟩ := h
    exact ⟨v, rows', S1, S2, h1, rfl, h3.frame fun j hj => hf j (by simp [hj]), OwnB.frame h4 fun j hj => hf j (by simp [hj])⟩
theorem OwnB.length {A : List Box} : ∀ {bs : List BdI} {rows : List (List AV)} {S : List Nat}, OwnB A bs rows S → rows.length = bs.length
  | [], rows, S, h => by rw [OwnB] at h; rw [h.1]; rfl
  | b :: bs, rows, S, h => by
    rw [OwnB] at h
    obtain ⟨v, rows', S1, S2, rfl, h2, h3, h4⟩ := h
    simp [OwnB.length h4]
theorem OwnB.low {A : List Box} : ∀ {bs : List BdI} {rows : List (List AV)} {S : List Nat}, OwnB A bs rows S → ∀ i ∈ S, i < A.length
  | [], rows, S, h => by rw [OwnB] at h; rw [h.2]; simp
  | b :: bs, rows, S, h => by
    rw [OwnB] at h
    obtain ⟨v, rows', S1, S2, h1, rfl, h3, h4⟩ := h
    intro j hj
    rcases List.mem_append.1 hj with hj | hj
    · exact h3.low j hj
    · exact OwnB.low h4 j hj
theorem OwnB.append {A : List Box} : ∀ {k1 k2 : List BdI} {r1 r2 : List (List AV)} {S1 S2 : List Nat}, OwnB A k1 r1 S1 → OwnB A k2 r2 S2 → OwnB A (k1 ++ k2) (r1 ++ r2) (S1 ++ S2)
  | [], k2, r1, r2, S1, S2, h1, h2 => by
    rw [OwnB] at h1
    rw [h1.1, h1.2]; exact h2
  | t :: k1, k2, r1, r2, S1, S2, h1, h2 => by
    rw [OwnB] at h1
    obtain ⟨v, r', T1, T2, rfl, rfl, h3, h4⟩ := h1
    rw [List.cons_append, OwnB]
    exact ⟨v, r' ++ r2, T1, T2 ++ S2, by simp, by simp, h3, OwnB.append h4 h2⟩
theorem OwnB.view {A : List Box} : ∀ {bs : List BdI} {rows : List (List AV)} {S : List Nat}, OwnB A bs rows S → ∀ k, k < rows.length → ∀ j, j < 6 → View A ((rows.getD k []).getD j .bot) ((bE (bs.getD k bd0)).getD j .bot)
  | [], rows, S, h => by rw [OwnB] at h; rw [h.1]; intro k hk; simp at hk
  | b :: bs, rows, S, h => by
    rw [OwnB] at h
    obtain ⟨v, rows', S1, S2, rfl, h2, h3, h4⟩ := h
    intro k hk j hj
    cases k with
    | zero =>
      have hv := h3.view
      match j, hj with
      | 0, _ => exact .leaf _ rfl
      | 1, _ => exact .leaf _ rfl
      | 2, _ => exact .leaf _ rfl
      | 3, _ => exact .leaf _ rfl
      | 4, _ => exact .leaf _ rfl
      | 5, _ => exact hv
    | succ k =>
      have := OwnB.view h4 k (by simpa using hk) j hj
      simpa using this
end Go.Proofs.YtngheinmebopeaaGreat

/- What SubstType hands back, all other new memory forgotten; the same for a call with borrowed arguments. -/
set_option linter.unusedVariables false
set_option linter.unusedSimpArgs false
namespace Go.Proofs.YtngheinmebopeaaGreat
open Go.Abs

mutual
theorem OwnT.free {A : List Box} : ∀ {t : Ty} {r : List AV} {S : List Nat}, OwnT A t r S → ifrees r = true ∧ ∀ i ∈ S, ifreeB (A.getD i .dead) = true
  | .mk k m n ks, r, S, h => by
    rw [OwnT] at h
    obtain ⟨v, rfl, h⟩ := h
    rcases h with ⟨rfl, _, rfl⟩ | ⟨rfl, _, rfl⟩ | ⟨i, rows, S', rfl, rfl, h3, h4⟩
    · exact ⟨by simp [ifrees, ifree], by simp⟩
    · exact ⟨by simp [ifrees, ifree], by simp⟩
    · refine ⟨by simp [ifrees, ifree], fun j hj => ?_⟩
      have h5 := OwnR.free h4
      rcases List.mem_cons.1 hj with rfl | hj
      · rw [h3]; exact h5.1
      · exact h5.2 j hj
theorem OwnR.free {A : List Box} : ∀ {ks : List Ty} {rows : List (List AV)} {S : List Nat}, OwnR A ks rows S → rows.all ifrees = true ∧ ∀ i ∈ S, ifreeB (A.getD i .dead) = true
  | [], rows, S, h => by rw [OwnR] at h; rw [h.1, h.2]; exact ⟨rfl, by simp⟩
  | t :: ks, rows, S, h => by
    rw [OwnR] at h
    obtain ⟨r, rows', S1, S2, rfl, rfl, h3, h4⟩ := h
    have a := OwnT.free h3
    have b := OwnR.free h4
    refine ⟨by rw [List.all_cons, a.1, b.1]; rfl, fun j hj => ?_⟩
    rcases List.mem_append.1 hj with hj | hj
    · exact a.2 j hj
    · exact b.2 j hj
end

def SubNew (A : List Box) (o : Option VT) (r : AV) (A' : List Box) : Prop :=
  ∃ B cs S, A' = A ++ B ∧ (∀ b ∈ B, ifreeB b = true) ∧ r = .tuple [.agg cs, .bool o.isSome] ∧ ifrees cs = true ∧ OwnT A' (oTyS o) cs S ∧ S.Nodup ∧ ∀ i ∈ S, A.length ≤ i ∧ i < A'.length
theorem subNew_mk {A A' : List Box} {o : Option VT} {cs : List AV} {S : List Nat} (hT : OwnT A' (oTyS o) cs S) (hN : S.Nodup) (hge : ∀ i ∈ S, A.length ≤ i) (hl : A.length ≤ A'.length) (hf : ∀ i, i < A.length → A'.getD i .dead = A.getD i .dead) :
    ∃ keep, SubNew A o (.tuple [.agg cs, .bool o.isSome]) (only keep A') := by
  refine ⟨fun k => decide (k < A.length) || decide (k ∈ S), ?_⟩
  have hfree := hT.free
  have hlow := hT.low
  generalize hkp : (fun k => decide (k < A.length) || decide (k ∈ S)) = keep
  have k1 : ∀ k, k < A.length → keep k = true := fun k hk => by rw [← hkp]; simp [hk]
  have k2 : ∀ k, k ∈ S → keep k = true := fun k hk => by rw [← hkp]; simp [hk]
  have k3 : ∀ k, A.length ≤ k → keep k = true → k ∈ S := fun k h1 h2 => by
    rw [← hkp] at h2
    simp at h2
    rcases h2 with h2 | h2
    · omega
    · exact h2
  have e := split_front (A := A) (A' := only keep A') (by rw [only_length]; exact hl) (fun k hk => by rw [only_getD, if_pos (k1 k hk)]; exact hf k hk)
  refine ⟨_, cs, S, e, fun b hb => ?_, rfl, hfree.1, hT.frame fun i hi => by rw [only_getD, if_pos (k2 i hi)], hN, fun i hi => ⟨hge i hi, by rw [only_length]; exact hlow i hi⟩⟩
  obtain ⟨i, hi, rfl⟩ := List.mem_iff_getElem.1 hb
  rw [List.getElem_drop]
  have hi2 : A.length + i < (only keep A').length := by simp at hi; omega
  have e2 : (only keep A')[A.length + i] = (only keep A').getD (A.length + i) .dead := by simp [List.getD, hi2]
  rw [e2, only_getD]
  split
  · rename_i hk; exact hfree.2 _ (k3 _ (by omega) hk)
  · rfl
theorem subNew_of {A A' : List Box} {o : Option VT} {r : AV} (h : SubOut A o r A') : ∃ keep, SubNew A o r (only keep A') := by
  cases o with
  | none =>
    obtain ⟨rfl, h2, h3⟩ := h
    exact subNew_mk (o := none) (S := []) (by rw [oTyS, ty0, ownT_mk]; exact ⟨_, rfl, .inl ⟨rfl, rfl, rfl⟩⟩) (by simp) (by simp) h2 h3
  | some v =>
    obtain ⟨cs, S, rfl, h1, h2, h3, h4, h5⟩ := h
    exact subNew_mk (o := some v) h1 h2 h3 h4 h5

/-- a contract with new memory, and the same for borrowed arguments -/
theorem new_call {f : FuncId} {args : List AV} {o : Option VT} (h : ∀ A, ACalls Tryz.prog f args A (fun r A' => SubOut A o r A')) (A : List Box) : ACalls Tryz.prog f args A (SubNew A o) :=
  ACalls.only ((h A).mono fun r A' h => subNew_of h)
theorem new_view {f : FuncId} {args args' : List AV} {o : Option VT} (h : ∀ A, ACalls Tryz.prog f args' A (SubNew A o)) {A : List Box} (hv : Views A args args') : ACalls Tryz.prog f args A (SubNew A o) := by
  refine ACalls.borrow hv ((h _).mono ?_)
  rintro r A' ⟨B, cs, S, rfl, h1, rfl, h3, h4, h5, h6⟩
  refine ⟨B, rfl, by simp [ifree, ifrees, h3], h1, B, cs, S, rfl, h1, rfl, h3, h4.frame fun i hi => ?_, h5, fun i hi => ?_⟩
  · have := (h6 i hi).1
    rw [deads_length] at this
    rw [Abs.getD_append_right this, Abs.getD_append_right (by rw [deads_length]; exact this), deads_length]
  · have := h6 i hi
    simp only [List.length_append, deads_length] at this ⊢
    exact this
theorem impl_subst_new {τ : Ty} {bs : List BdI} {o : Option VT} (ho : SubIs τ bs o) (hl : bs.length ≤ 1048576) (hk : ∀ b ∈ bs, b.Ok) (A : List Box) : ACalls Tryz.prog 10 [.agg (enc τ), .slice (bEs bs)] A (SubNew A o) :=
  ACalls.only ((impl_SubstType τ bs hl hk A).mono fun r A' h => by
    obtain ⟨o', h1, h2⟩ := h
    rw [subIs_one ho h1]
    exact subNew_of h2)
theorem impl_subst_b {τ : Ty} {bs : List BdI} {o : Option VT} (ho : SubIs τ bs o) (hl : bs.length ≤ 1048576) (hk : ∀ b ∈ bs, b.Ok) {A : List Box} {args : List AV} (hv : Views A args [.agg (enc τ), .slice (bEs bs)]) : ACalls Tryz.prog 10 args A (SubNew A o) := by
  refine ACalls.borrow hv ((impl_subst_new ho hl hk _).mono ?_)
  rintro r A' ⟨B, cs, S, rfl, h1, rfl, h3, h4, h5, h6⟩
  refine ⟨B, rfl, by simp [ifree, ifrees, h3], h1, B, cs, S, rfl, h1, rfl, h3, h4.frame fun i hi => ?_, h5, fun i hi => ?_⟩
  · have := (h6 i hi).1
    rw [deads_length] at this
    rw [Abs.getD_append_right this, Abs.getD_append_right (by rw [deads_length]; exact this), deads_length]
  · have := h6 i hi
    simp only [List.length_append, deads_length] at this ⊢
    exact this
end Go.Proofs.YtngheinmebopeaaGreat

/- The model's NormalSig. -/
set_option linter.unusedVariables false
set_option linter.unusedSimpArgs false
namespace Go.Proofs.YtngheinmebopeaaGreat
open Go.Abs

theorem itemOk_of {x : SigI} (h : itemOk x = true) : localB x.name = true ∧ ∃ y, ItemOf x y := by
  rw [itemOk, Bool.and_eq_true] at h
  refine ⟨h.1, ?_⟩
  have h2 := h.2
  by_cases k1 : x.kind = 1
  · rw [if_pos k1] at h2
    exact ⟨.ab x.name, rfl, k1, of_decide_eq_true h2⟩
  · rw [if_neg k1] at h2
    by_cases k2 : x.kind = 2 ∨ x.kind = 3
    · rw [if_pos k2] at h2
      rcases valid_cases x.typ with ⟨v, hv, hv2⟩ | hv
      · rcases k2 with k2 | k2
        · exact ⟨.al x.name v, rfl, k2, hv, hv2⟩
        · exact ⟨.va x.name v, rfl, k2, hv, hv2⟩
      · rw [hv] at h2; cases h2
    · rw [if_neg k2] at h2; cases h2
open Classical in
theorem reads_or (s : List SigI) : (∃ x ∈ s, itemOk x = false) ∨ ∃ ys, ReadsTo s ys := by
  by_cases h : ∃ x ∈ s, itemOk x = false
  · exact .inl h
  · have h' : ∀ x ∈ s, itemOk x = true := fun x hx => by
      cases hc : itemOk x with
      | true => rfl
      | false => exact absurd ⟨x, hx, hc⟩ h
    refine .inr ⟨s.map fun x => if hx : ∃ y, ItemOf x y then hx.choose else vi0, by simp, fun i hi => ?_⟩
    have hm := si_mem hi
    obtain ⟨h1, h2⟩ := itemOk_of (h' _ hm)
    refine ⟨h1, ?_⟩
    have e : (s.map fun x => if hx : ∃ y, ItemOf x y then hx.choose else vi0).getD i vi0 = if hx : ∃ y, ItemOf (s.getD i si0) y then hx.choose else vi0 := by
      simp [List.getD, hi]
    rw [e, dif_pos h2]
    exact h2.choose_spec
theorem rdN_bad {s : List SigI} (h : sigB s = false) : RdN s none := by
  by_cases h8 : 8 < s.length
  · exact .inl (.inl h8)
  · rcases reads_or s with hb | ⟨ys, hr⟩
    · exact .inl (.inr hb)
    · exact .inr ⟨ys, by omega, hr, .inl (by rw [← sigB_reads (by omega) hr]; exact h)⟩
theorem sigB_yes {s : List SigI} (h : sigB s = true) : ∃ ys, s.length ≤ 8 ∧ ReadsTo s ys ∧ ordB ys = true := by
  have h8 : s.length ≤ 8 := by
    rcases Nat.lt_or_ge 8 s.length with h1 | h1
    · rw [sigB_bad (.inl h1)] at h; cases h
    · exact h1
  rcases reads_or s with hb | ⟨ys, hr⟩
  · rw [sigB_bad (.inr hb)] at h; cases h
  · exact ⟨ys, h8, hr, by rw [← sigB_reads h8 hr]; exact h⟩

/-- what a valid signature hands back -/
def sgR (s : List SigI) : AV := .tuple [.slice (sEs s), .bool true]
def sgN : AV := .tuple [.slice [], .bool false]
set_option maxRecDepth 100000 in
theorem spec_l2Made (s : List SigI) (hs : s.length ≤ 1048576) (ho : ∀ x ∈ s, x.Ok ∧ sz x.typ ≤ 1048576) (A : List Box) : ACalls Tryz.prog 23 [.slice (sEs s)] A (fun r A' => r = (if sigB s = true then sgR s else sgN) ∧ A' = A) := by
  refine acalls_enter (cf := cf 9 [0, 2, 3, 6]) foll Tryz.func23 Tryz.ntmps23 (by simp [cf]) ?_
  simp only [Tryz.f23, EnterK_some, zW, zX, zD, builtinA, isLeaf, const1, ustrA, simprocAttr, ti23, ti34, ca21, cf, Tryz.results23]
  refine callK_intro (by simp only [zW, zX, zD, builtinA, isLeaf, const1, ustrA, simprocAttr, Option.map_some]; rfl) (spec_SigValid s hs ho _) ?_ rfl; rintro v A' ⟨rfl, rfl⟩
  cases hb : sigB s with
  | true =>
    simp only [zW, zX, zD, builtinA, isLeaf, const1, ustrA, simprocAttr, ti23, ti34, ca21, cf, Tryz.results23]
    rfl
  | false =>
    simp only [zW, zX, zD, builtinA, isLeaf, const1, ustrA, simprocAttr, ti23, ti34, ca21, cf, Tryz.results23]
    rfl

def nrR : Option (List VI) → AV
  | some zs => sgR (zs.map siOf)
  | none => sgN
theorem sEs_app (a b : List SigI) : sEs (a ++ b) = sEs a ++ sEs b := by simp [sEs]
theorem mix_getD {Z : List SigI} {s : List SigI} {i : Nat} (hz : Z.length = i) (hi : i < s.length) : (sEs (Z ++ s.drop i)).getD i [] = sE (s.getD i si0) := by
  rw [sEs_app, Abs.getD_append_right (by rw [sEs_length]; omega), sEs_length, hz, Nat.sub_self]
  simp [sEs, List.getD, hi]
theorem mix_drop {s : List SigI} {i : Nat} (hi : i < s.length) : s.drop i = s.getD i si0 :: s.drop (i + 1) := by
  have : s.getD i si0 = s[i] := by simp [List.getD, hi]
  rw [this, List.getElem_cons_drop hi]
theorem mix_set {Z : List SigI} {s : List SigI} {i : Nat} (x : SigI) (hz : Z.length = i) (hi : i < s.length) : (sEs (Z ++ s.drop i)).set i (sE x) = sEs ((Z ++ [x]) ++ s.drop (i + 1)) := by
  rw [mix_drop hi, sEs_app, List.set_append_right _ _ (by rw [sEs_length]; omega), sEs_length, hz, Nat.sub_self]
  simp [sEs]
theorem okI_ty {w : VT} (h : VOk w) (k : Int) {n : List UInt8} (hn : n.length < 2 ^ 63) : (⟨k, n, toTy w⟩ : SigI).Ok ∧ sz (toTy w) ≤ 1048576 := by
  have := sz_toTyS _ h.ok
  have := h.cnt
  exact ⟨⟨hn, ok_toTyS _ h.ok⟩, by omega⟩
theorem siOf_ok {y : VI} (h : VOk (meanI y)) (hn : (viK y).2.length < 2 ^ 63) : (siOf y).Ok ∧ sz (siOf y).typ ≤ 1048576 := by
  cases y with
  | ab n => exact ⟨⟨hn, by show ty0.Ok; rw [ty0]; exact .mk (by simp) (by simp) (by simp) (by simp)⟩, by simp [siOf, ty0, sz, szs]⟩
  | al n v => exact okI_ty h 2 hn
  | va n v => exact okI_ty h 3 hn

end Go.Proofs.YtngheinmebopeaaGreat
