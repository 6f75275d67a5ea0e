/- SigOut, SigStr, SigSame, Draw, DrawTy. -/
import Derived.Test.YtngheinmebopeaaGreatK09
import Derived.Test.YtngheinmebopeaaGreatAbsW3
/- What NormalSig and the like hand back: a list of items that is new memory. -/
set_option linter.unusedVariables false
set_option linter.unusedSimpArgs false
namespace Go.Proofs.YtngheinmebopeaaGreat
open Go.Abs

theorem OwnK.free {A : List Box} {ks : List Ty} {v : AV} {S : List Nat} (h : OwnK A ks v S) : ifree v = true ∧ ∀ i ∈ S, ifreeB (A.getD i .dead) = true := by
  have h2 := OwnT.free (ownT_mk.2 ⟨v, rfl, h⟩ : OwnT A (.mk 0 [] [] ks) _ S)
  simpa [ifrees, ifree] using h2
theorem OwnG.free {A : List Box} : ∀ {xs : List SigI} {rows : List (List AV)} {S : List Nat}, OwnG A xs rows S → rows.all ifrees = true ∧ ∀ i ∈ S, ifreeB (A.getD i .dead) = true
  | [], rows, S, h => by rw [OwnG] at h; rw [h.1, h.2]; exact ⟨rfl, by simp⟩
  | t :: ks, rows, S, h => by
    rw [OwnG] at h
    obtain ⟨v, rows', S1, S2, rfl, rfl, h3, h4⟩ := h
    have a := h3.free
    have b := OwnG.free h4
    refine ⟨by rw [List.all_cons, b.1]; simp [sRow, ifrees, ifree, a.1], fun j hj => ?_⟩
    rcases List.mem_append.1 hj with hj | hj
    · exact a.2 j hj
    · exact b.2 j hj
theorem OwnI.free {A : List Box} {xs : List SigI} {v : AV} {S : List Nat} (h : OwnI A xs v S) : ifree v = true ∧ ∀ i ∈ S, ifreeB (A.getD i .dead) = true := by
  rcases h with ⟨rfl, _, rfl⟩ | ⟨i, rows, S', rfl, rfl, h3, h4⟩
  · exact ⟨rfl, by simp⟩
  · refine ⟨rfl, fun j hj => ?_⟩
    have h5 := h4.free
    rcases List.mem_cons.1 hj with rfl | hj
    · rw [h3]; exact h5.1
    · exact h5.2 j hj

/-- what is handed back, in new memory -/
def SgOut (A : List Box) (xs : List SigI) (ok : Bool) (r : AV) (A' : List Box) : Prop :=
  ∃ v S, r = .tuple [v, .bool ok] ∧ OwnI A' xs v S ∧ S.Nodup ∧ (∀ i ∈ S, A.length ≤ i) ∧ A.length ≤ A'.length ∧ ∀ i, i < A.length → A'.getD i .dead = A.getD i .dead
def SgNew (A : List Box) (xs : List SigI) (ok : Bool) (r : AV) (A' : List Box) : Prop :=
  ∃ B v S, A' = A ++ B ∧ (∀ b ∈ B, ifreeB b = true) ∧ r = .tuple [v, .bool ok] ∧ ifree v = true ∧ OwnI A' xs v S ∧ S.Nodup ∧ ∀ i ∈ S, A.length ≤ i ∧ i < A'.length
theorem sgNew_of {A A' : List Box} {xs : List SigI} {ok : Bool} {r : AV} (h : SgOut A xs ok r A') : ∃ keep, SgNew A xs ok r (only keep A') := by
  obtain ⟨v, S, rfl, hT, hN, hge, hl, hf⟩ := h
  refine ⟨fun k => decide (k < A.length) || decide (k ∈ S), ?_⟩
  have hfree := hT.free
  have hlow := hT.low
  generalize hkp : (fun k => decide (k < A.length) || decide (k ∈ S)) = keep
  have k1 : ∀ k, k < A.length → keep k = true := fun k hk => by rw [← hkp]; simp [hk]
  have k2 : ∀ k, k ∈ S → keep k = true := fun k hk => by rw [← hkp]; simp [hk]
  have k3 : ∀ k, A.length ≤ k → keep k = true → k ∈ S := fun k h1 h2 => by
    rw [← hkp] at h2
    simp at h2
    rcases h2 with h2 | h2
    · omega
    · exact h2
  have e := split_front (A := A) (A' := only keep A') (by rw [only_length]; exact hl) (fun k hk => by rw [only_getD, if_pos (k1 k hk)]; exact hf k hk)
  refine ⟨_, v, S, e, fun b hb => ?_, rfl, hfree.1, hT.frame fun i hi => by rw [only_getD, if_pos (k2 i hi)], hN, fun i hi => ⟨hge i hi, by rw [only_length]; exact hlow i hi⟩⟩
  obtain ⟨i, hi, rfl⟩ := List.mem_iff_getElem.1 hb
  rw [List.getElem_drop]
  have hi2 : A.length + i < (only keep A').length := by simp at hi; omega
  have e2 : (only keep A')[A.length + i] = (only keep A').getD (A.length + i) .dead := by simp [List.getD, hi2]
  rw [e2, only_getD]
  split
  · rename_i hk; exact hfree.2 _ (k3 _ (by omega) hk)
  · rfl
theorem sg_call {f : FuncId} {args : List AV} {xs : List SigI} {ok : Bool} (h : ∀ A, ACalls Tryz.prog f args A (fun r A' => SgOut A xs ok r A')) (A : List Box) : ACalls Tryz.prog f args A (SgNew A xs ok) :=
  ACalls.only ((h A).mono fun r A' h => sgNew_of h)
theorem sg_view {f : FuncId} {args args' : List AV} {xs : List SigI} {ok : Bool} (h : ∀ A, ACalls Tryz.prog f args' A (SgNew A xs ok)) {A : List Box} (hv : Views A args args') : ACalls Tryz.prog f args A (SgNew A xs ok) := by
  refine ACalls.borrow hv ((h _).mono ?_)
  rintro r A' ⟨B, v, S, rfl, h1, rfl, h3, h4, h5, h6⟩
  refine ⟨B, rfl, by simp [ifree, ifrees, h3], h1, B, v, S, rfl, h1, rfl, h3, h4.frame fun i hi => ?_, h5, fun i hi => ?_⟩
  · have := (h6 i hi).1
    rw [deads_length] at this
    rw [Abs.getD_append_right this, Abs.getD_append_right (by rw [deads_length]; exact this), deads_length]
  · have := h6 i hi
    simp only [List.length_append, deads_length] at this ⊢
    exact this

set_option maxRecDepth 100000 in
theorem impl_plainSig (ys : List VI) (hl : ys.length ≤ 1000) (A : List Box) : ACalls Tryz.prog 20 [.slice (vRows ys)] A (fun r A' => ∃ j, r = .own j ∧ NewG A (ys.map siOf) j A') := by
  refine acalls_enterK (cf := cf 5 [0, 2]) foll Tryz.func20 Tryz.ntmps20 (by simp [cf]) ?_
  simp only [Tryz.f20, EnterK_some, zW, zX, zD, builtinA, isLeaf, const1, ustrA, simprocAttr, ca44, cf, Tryz.results20]
  refine callO_intro (impl_plainItems ys hl _) ?_
  rintro r A' ⟨j, rfl, h⟩
  simp only [zW, zX, zD, builtinA, isLeaf, const1, ustrA, simprocAttr, ca44, cf, Tryz.results20]
  exact ⟨j, rfl, h⟩
def nrX : Option (List VI) → List SigI
  | some zs => zs.map siOf
  | none => []
theorem itemsX_ok {s : List SigI} (hs : ∀ x ∈ s, x.Ok) {zs : List VI} (h8 : zs.length ≤ 8) (hv : ∀ i, i < zs.length → VOk (meanI (zs.getD i vi0)) ∧ (viK (zs.getD i vi0)).2.length < 2 ^ 63) : (zs.map siOf).length ≤ 8 ∧ (∀ x ∈ zs.map siOf, x.Ok) ∧ totG (zs.map siOf) ≤ 1600 := by
  have key : ∀ x ∈ zs.map siOf, x.Ok ∧ counts x.typ.kids ≤ 64 := fun x hx => by
    obtain ⟨y, hy, rfl⟩ := List.mem_map.1 hx
    obtain ⟨k, hk, rfl⟩ := List.mem_iff_getElem.1 hy
    have h := hv k hk
    have e : zs.getD k vi0 = zs[k] := by simp [List.getD, hk]
    rw [e] at h
    refine ⟨(siOf_ok h.1 h.2).1, ?_⟩
    have hc := h.1.cnt
    generalize zs[k] = y at *
    have hk : ∀ v, counts (toTy v).kids + 1 = cnt v := fun v => by
      rw [← count_toTy]; cases toTy v; simp [count, Ty.kids]; omega
    cases y with
    | ab n => simp [siOf, ty0, Ty.kids, counts]
    | al n v => have := hk v; simp only [siOf, meanI] at *; omega
    | va n v => have := hk v; simp only [siOf, meanI] at *; omega
  refine ⟨by simpa using h8, fun x hx => (key x hx).1, ?_⟩
  have hb : ∀ l : List SigI, (∀ x ∈ l, counts x.typ.kids ≤ 64) → totG l ≤ 197 * l.length := by
    intro l
    induction l with
    | nil => simp [totG]
    | cons x l ih =>
      intro h
      have := h x (by simp)
      have := ih fun y hy => h y (by simp [hy])
      rw [totG, List.length_cons]; omega
  have := hb _ fun x hx => (key x hx).2
  simp only [List.length_map] at this
  omega
end Go.Proofs.YtngheinmebopeaaGreat

/- Strengthened signatures, by the program and by the model. -/
set_option linter.unusedVariables false
set_option linter.unusedSimpArgs false
namespace Go.Proofs.YtngheinmebopeaaGreat
open Go.Abs

def strI (mod : List UInt8) : VI → VI
  | .ab n => .al n (.nm mod n)
  | .al n v => .al n v
  | .va n v => .va n v
theorem viK_str (mod : List UInt8) (y : VI) : viK (strI mod y) = viK y := by cases y <;> rfl
/-- what strengthening answers -/
def RdS (s : List SigI) (mod : List UInt8) : Option (List VI) → Prop
  | some zs => ∃ ys, s.length ≤ 8 ∧ ReadsTo s ys ∧ ordB ys = true ∧ moduleB mod = true ∧ zs = ys.map (strI mod)
  | none => sigB s = false ∨ moduleB mod = false
theorem moduleB_ne {m : List UInt8} (h : moduleB m = true) : m ≠ [] := by
  rintro rfl; revert h; decide
theorem strI_getD (mod : List UInt8) {ys : List VI} {i : Nat} (h : i < ys.length) : (ys.map (strI mod)).getD i vi0 = strI mod (ys.getD i vi0) := by
  simp [List.getD, h]
theorem strI_keys (mod : List UInt8) (ys : List VI) (i : Nat) : ((ys.map (strI mod)).take i).map viK = (ys.take i).map viK := by
  rw [← List.map_take, List.map_map]
  congr 1
  funext y
  exact viK_str mod y
theorem ordB_str {mod : List UInt8} {ys : List VI} (hm : moduleB mod = true) (ho : ordB ys = true) : ordB (ys.map (strI mod)) = true := by
  have ho' := ho
  unfold ordB at ho' ⊢
  rw [List.all_eq_true] at ho' ⊢
  intro i hi
  rw [List.mem_range, List.length_map] at hi
  have hs := ho' i (List.mem_range.mpr hi)
  rw [strI_getD mod hi]
  simp only [stepB, Bool.and_eq_true, viK_str, strI_keys] at hs ⊢
  refine ⟨?_, hs.2⟩
  cases hy : ys.getD i vi0 with
  | ab n => simp [strI, allI, allV, okN, moduleB_ne hm]
  | al n v => rw [hy] at hs; exact hs.1
  | va n v => rw [hy] at hs; exact hs.1
theorem str_ok {s : List SigI} {ys : List VI} {mod : List UInt8} (hm : moduleB mod = true) (hr : ReadsTo s ys) {i : Nat} (hi : i < ys.length) : VOk (meanI (strI mod (ys.getD i vi0))) := by
  have h1 := hr.2 i (by rw [← hr.1]; exact hi)
  have h2 := mean_ok h1.1 h1.2
  have hn : localB (viK (ys.getD i vi0)).2 = true := by rw [← siOf_name, ← itemOf_si h1.2]; exact h1.1
  cases hy : ys.getD i vi0 with
  | ab n =>
    rw [hy] at hn
    refine ⟨?_, by simp [strI, meanI, dep], by simp [strI, meanI, cnt]⟩
    simp only [strI, meanI, okV, nmB, hm, Bool.or_true, Bool.true_and]
    exact hn
  | al n v => rw [hy] at h2; exact h2
  | va n v => rw [hy] at h2; exact h2
theorem str_reads {s : List SigI} {ys : List VI} {mod : List UInt8} (hm : moduleB mod = true) (hr : ReadsTo s ys) : ReadsTo ((ys.map (strI mod)).map siOf) (ys.map (strI mod)) := by
  refine ⟨by simp, fun i hi => ?_⟩
  have hi' : i < ys.length := by simpa using hi
  have e : ((ys.map (strI mod)).map siOf).getD i si0 = siOf ((ys.map (strI mod)).getD i vi0) := by simp [List.getD, hi']
  have h1 := hr.2 i (by rw [← hr.1]; exact hi')
  rw [e, strI_getD mod hi']
  refine ⟨?_, itemOf_of (str_ok hm hr hi')⟩
  rw [siOf_name, viK_str, ← siOf_name, ← itemOf_si h1.2]
  exact h1.1
theorem rdS_ex (s : List SigI) (mod : List UInt8) : ∃ o, RdS s mod o := by
  cases hb : sigB s with
  | false => exact ⟨none, .inl hb⟩
  | true =>
    cases hm : moduleB mod with
    | false => exact ⟨none, .inr hm⟩
    | true =>
      obtain ⟨ys, h8, hr, hord⟩ := sigB_yes hb
      exact ⟨some _, ys, h8, hr, hord, hm, rfl⟩
theorem rdS_eq {s : List SigI} {mod : List UInt8} {o o' : Option (List VI)} (h : RdS s mod o) (h' : RdS s mod o') : o = o' := by
  have key : ∀ {zs}, RdS s mod (some zs) → ¬ RdS s mod none := by
    rintro zs ⟨ys, h8, hr, ho, hm, _⟩ (h | h)
    · rw [sigB_reads h8 hr, ho] at h; cases h
    · rw [hm] at h; cases h
  cases o with
  | none =>
    cases o' with
    | none => rfl
    | some zs => exact absurd h (key h')
  | some zs =>
    cases o' with
    | none => exact absurd h' (key h)
    | some zs' =>
      obtain ⟨ys, _, hr, _, _, rfl⟩ := h
      obtain ⟨ys', _, hr', _, _, rfl⟩ := h'
      rw [readsTo_one hr hr']
theorem strX_ok {s : List SigI} {mod : List UInt8} (hs : ∀ x ∈ s, x.Ok) {o : Option (List VI)} (h : RdS s mod o) : (nrX o).length ≤ 8 ∧ (∀ x ∈ nrX o, x.Ok) ∧ totG (nrX o) ≤ 1600 := by
  cases o with
  | none => exact ⟨by simp [nrX], by simp [nrX], by simp [nrX, totG]⟩
  | some zs =>
    obtain ⟨ys, h8, hr, hord, hm, rfl⟩ := h
    refine itemsX_ok hs (by simp [hr.1]; exact h8) fun i hi => ?_
    rw [List.length_map] at hi
    rw [strI_getD mod hi]
    refine ⟨str_ok hm hr hi, ?_⟩
    have h1 := hr.2 i (by rw [← hr.1]; exact hi)
    rw [viK_str, ← siOf_name, ← itemOf_si h1.2]
    exact (hs _ (si_mem (by rw [← hr.1]; exact hi))).1

/-! ### the program -/
set_option maxRecDepth 100000 in
theorem impl_readSigK (s : List SigI) (hs : s.length ≤ 1048576) (ho : ∀ x ∈ s, x.Ok ∧ sz x.typ ≤ 1048576) (A : List Box) : ACalls Tryz.prog 18 [.slice (sEs s)] A (fun r A' => ∃ B, A' = A ++ B ∧
    ((∃ ys j, s.length ≤ 8 ∧ ReadsTo s ys ∧ r = .tuple [.own (A.length + j), .bool (ordB ys)] ∧ j < B.length ∧ B.getD j .dead = .row 1 (vRows ys) 0) ∨ ((8 < s.length ∨ ∃ x ∈ s, itemOk x = false) ∧ r = .tuple [.nils, .bool false]))) := by
  have hre := impl_readEach s hs ho A
  refine acalls_enterK (cf := cf 17 [0, 2, 3, 4, 5]) foll Tryz.func18 Tryz.ntmps18 (by simp [cf]) ?_
  simp only [Tryz.f18, EnterK_some, zW, zX, zD, builtinA, isLeaf, const1, ustrA, simprocAttr, ca40, ca42, cf, Tryz.results18]
  refine callO_intro hre ?_
  rintro r A' ⟨B, rfl, ⟨ys, j, h8, hrt, rfl, hj, hg⟩ | ⟨hbad, rfl⟩⟩
  · have hg2 : (A ++ B).getD (A.length + j) .dead = .row 1 (vRows ys) 0 := by rw [Abs.getD_append_right (by omega), Nat.add_sub_cancel_left]; exact hg
    simp only [zW, zX, zD, builtinA, isLeaf, const1, ustrA, simprocAttr, ca40, ca42, cf, Tryz.results18]
    refine callO_intro (borrowI (.cons (.row (A.length + j) 1 0 (vRows ys) (vRows ys) hg2 rfl (vRows_leaf ys) (vRows_view ys _)) .nil) rfl (fun A => impl_inOrder ys (by have := hrt.1; omega) A)) ?_
    rintro r A' ⟨rfl, rfl⟩
    simp only [zW, zX, zD, builtinA, isLeaf, const1, ustrA, simprocAttr, ca40, ca42, cf, Tryz.results18]
    exact ⟨B, rfl, .inl ⟨ys, j, h8, hrt, rfl, hj, hg⟩⟩
  · simp only [zW, zX, zD, builtinA, isLeaf, const1, ustrA, simprocAttr, ca40, ca42, cf, Tryz.results18]
    exact ⟨B, rfl, .inr hbad⟩
set_option maxRecDepth 100000 in
theorem impl_cloneSig (ys : List VI) (i : Nat) (A : List Box) (hb : A.getD i .dead = .row 1 (vRows ys) 0) (hi : i < A.length) (hl : ys.length ≤ 1000) : ACalls Tryz.prog 43 [.own i] A (fun r A' => ∃ B j, A' = A ++ B ∧ r = .own (A.length + j) ∧ j < B.length ∧ B.getD j .dead = .row 1 (vRows ys) 0) := by
  have hb2 : (A ++ [Box.row 1 [] 0]).getD i .dead = .row 1 (vRows ys) 0 := by rw [Abs.getD_append_left hi]; exact hb
  refine acalls_enterK (cf := cf 8 [0, 2, 4]) foll Tryz.func43 Tryz.ntmps43 (by simp [cf]) ?_
  simp only [Tryz.f43, EnterK_some, zW, zX, zD, builtinA, isLeaf, const1, ustrA, simprocAttr, ti51, ti91, cf, Tryz.results43]
  simp only [zW, zX, zD, builtinA, isLeaf, const1, ustrA, simprocAttr, ti51, ti91, cf, Tryz.results43, hb2, vRows_length]
  exact ⟨⟨fun r hr => (vRows_leaf ys r hr).1, by omega⟩, [.dead, .row 1 (vRows ys) 0], 1, rfl, rfl, by simp, rfl⟩

theorem vRows_set {ys zs : List VI} {i : Nat} (y : VI) (hz : zs.length = i) (hi : i < ys.length) : (vRows (zs ++ ys.drop i)).set i (vRow y) = vRows ((zs ++ [y]) ++ ys.drop (i + 1)) := by
  have : ys.drop i = ys.getD i vi0 :: ys.drop (i + 1) := vi_drop hi
  rw [this]
  simp only [vRows, List.map_append, List.map_cons]
  rw [List.set_append_right _ _ (by simp; omega)]
  simp [hz]
theorem vRows_drop (zs : List VI) (p : Nat) : List.drop 1 ((vRows zs).getD p []) = [] := by
  by_cases h : p < zs.length
  · rw [vRows_getD h]; rfl
  · have : (vRows zs)[p]? = none := by simp [vRows]; omega
    simp [List.getD, this]
set_option maxRecDepth 100000 in
theorem impl_strengthen (mod : List UInt8) (ys : List VI) (i : Nat) (A : List Box) (hb : A.getD i .dead = .row 1 (vRows ys) 0) (hi : i < A.length) (hl : ys.length ≤ 1000) : ACalls Tryz.prog 19 [.own i, .str mod] A (fun r A' => ∃ B j, A' = A ++ B ∧ r = .own (A.length + j) ∧ j < B.length ∧ B.getD j .dead = .row 1 (vRows (ys.map (strI mod))) 0) := by
  refine acalls_enterK (cf := cf 39 [0, 1, 4, 5, 6, 7, 8, 9, 12, 13, 14, 15, 24]) foll Tryz.func19 Tryz.ntmps19 (by simp [cf]) ?_
  simp only [Tryz.f19, EnterK_some, zW, zX, zD, builtinA, isLeaf, const1, ustrA, simprocAttr, ti3, ti9, ti51, ti91, ti96, ti99, ti101, ca43, za96, cf, Tryz.results19]
  refine callO_intro (impl_cloneSig ys i A hb hi hl) ?_
  rintro r A1 ⟨B, j, rfl, rfl, hj, hg⟩
  have hb2 : ∀ B, (A ++ B).getD i .dead = .row 1 (vRows ys) 0 := fun B => by rw [Abs.getD_append_left hi]; exact hb
  simp only [zW, zX, zD, builtinA, isLeaf, const1, ustrA, simprocAttr, ti3, ti9, ti51, ti91, ti96, ti99, ti101, ca43, za96, cf, Tryz.results19, hb2, vRows_length]
  refine aloop_intro [1, 5, 12, 13, 14] (fun e A' => ∃ p B, p ≤ ys.length ∧ e = [(1, .str mod), (5, .own (A.length + j)), (12, .own i), (13, .int .i64 ys.length), (14, .int .i64 p)] ∧ A' = A ++ B ∧ j < B.length ∧ B.getD j .dead = .row 1 (vRows ((ys.take p).map (strI mod) ++ ys.drop p)) 0) (fun e _ => ys.length - (intOf (Abs.look 14 e)).toNat) ?_ ?_
  · simp only [zW, zX, zD, builtinA, isLeaf, const1, ustrA, simprocAttr, ti3, ti9, ti51, ti91, ti96, ti99, ti101, ca43, za96, cf, Tryz.results19]
    exact ⟨0, B, by omega, rfl, rfl, hj, by simpa using hg⟩
  · rintro e A' ⟨p, B, hp, rfl, rfl, hj, hg⟩
    by_cases hp2 : p < ys.length
    · have d2 : decide ((p : Int) < (ys.length : Int)) = true := by simp; omega
      have he := vRows_getD hp2
      have hi1 : IntKind.i64.wrap ((p : Int) + 1) = ((p + 1 : Nat) : Int) := by rw [wrap64 (by omega) (by omega)]; rfl
      have pp : (0 : Int) ≤ (p : Int) ∧ (p : Int) < (ys.length : Int) := ⟨by omega, by omega⟩
      have hzl : ((ys.take p).map (strI mod)).length = p := by simp; omega
      have hst := fun y => vRows_set y hzl hp2
      have hrl : (vRows ((ys.take p).map (strI mod) ++ ys.drop p)).length = ys.length := by rw [vRows_length]; simp; omega
      have htk : (ys.take (p + 1)).map (strI mod) = (ys.take p).map (strI mod) ++ [strI mod (ys.getD p vi0)] := by
        rw [List.take_add_one, List.map_append]; simp [List.getD, hp2]
      have hdr : ys.drop p = ys.getD p vi0 :: ys.drop (p + 1) := vi_drop hp2
      generalize ys.getD p vi0 = y at *
      rw [vRow] at he
      cases y with
      | ab n =>
        have hst2 := hst (.al n (.nm mod n))
        simp only [vRow, viT, viX, vT, vX] at he hst2
        simp only [zW, zX, zD, builtinA, isLeaf, const1, ustrA, simprocAttr, ti3, ti9, ti51, ti91, ti96, ti99, ti101, ca43, za96, cf, Tryz.results19, hb2, vRows_length, d2, he]
        refine ⟨pp, ?_⟩
        have hgB : ∀ X, (B ++ X).getD j .dead = .row 1 (vRows ((ys.take p).map (strI mod) ++ ys.drop p)) 0 := fun X => by rw [Abs.getD_append_left hj]; exact hg
        have hst3 : ((B ++ [Box.cells [.str n]]).set j (.row 1 (vRows ((ys.take p).map (strI mod) ++ [VI.al n (VT.nm mod n)] ++ ys.drop (p + 1))) 0)).getD j .dead = .row 1 (vRows ((ys.take (p + 1)).map (strI mod) ++ ys.drop (p + 1))) 0 := by
          rw [getD_set_self (by simp; omega), htk]; rfl
        have hjl : j < B.length + 1 := by omega
        have hdz := vRows_drop ((ys.take p).map (strI mod) ++ ys.drop p) p
        simp only [zW, zX, zD, builtinA, isLeaf, const1, ustrA, simprocAttr, ti3, ti9, ti51, ti91, ti96, ti99, ti101, ca43, za96, cf, Tryz.results19, wpO_typeAssert, assert_yes, hb2, hgB, hrl, hst2, hdz, hjl, hi1, LoopK_eq]
        refine ⟨pp, ⟨by omega, by omega, fun w hw => by rw [List.mem_singleton.1 hw]⟩, ⟨p + 1, _, by omega, rfl, rfl, by simp; omega, by rw [List.append_assoc] at hst3; exact hst3⟩, ?_⟩
        simp only [intOf]; omega
      | al n v =>
        have has := fun A => assert_no [.str []] 101 96 (.agg [.str n, .iface (vT v) (vX v)]) rfl (A := A)
        simp only [viT, viX] at he
        simp only [zW, zX, zD, builtinA, isLeaf, const1, ustrA, simprocAttr, ti3, ti9, ti51, ti91, ti96, ti99, ti101, ca43, za96, cf, Tryz.results19, hb2, vRows_length, d2, he]
        refine ⟨pp, ?_⟩
        simp only [zW, zX, zD, builtinA, isLeaf, const1, ustrA, simprocAttr, ti3, ti9, ti51, ti91, ti96, ti99, ti101, ca43, za96, cf, Tryz.results19, wpO_typeAssert, has, hi1, LoopK_eq]
        refine ⟨⟨p + 1, B ++ [.cells [.str []]], by omega, rfl, by simp, by simp; omega, ?_⟩, ?_⟩
        · rw [Abs.getD_append_left hj, hg, htk, hdr]; simp [strI]
        · simp only [intOf]; omega
      | va n v =>
        have has := fun A => assert_no [.str []] 119 96 (.agg [.str n, .iface (vT v) (vX v)]) rfl (A := A)
        simp only [viT, viX] at he
        simp only [zW, zX, zD, builtinA, isLeaf, const1, ustrA, simprocAttr, ti3, ti9, ti51, ti91, ti96, ti99, ti101, ca43, za96, cf, Tryz.results19, hb2, vRows_length, d2, he]
        refine ⟨pp, ?_⟩
        simp only [zW, zX, zD, builtinA, isLeaf, const1, ustrA, simprocAttr, ti3, ti9, ti51, ti91, ti96, ti99, ti101, ca43, za96, cf, Tryz.results19, wpO_typeAssert, has, hi1, LoopK_eq]
        refine ⟨⟨p + 1, B ++ [.cells [.str []]], by omega, rfl, by simp, by simp; omega, ?_⟩, ?_⟩
        · rw [Abs.getD_append_left hj, hg, htk, hdr]; simp [strI]
        · simp only [intOf]; omega
    · have d2 : decide ((p : Int) < (ys.length : Int)) = false := by simp; omega
      have e : p = ys.length := by omega
      subst e
      simp only [zW, zX, zD, builtinA, isLeaf, const1, ustrA, simprocAttr, ti3, ti9, ti51, ti91, ti96, ti99, ti101, ca43, za96, cf, Tryz.results19, d2]
      exact ⟨B, j, rfl, rfl, hj, by simpa using hg⟩

theorem sg_none (A B : List Box) : SgOut A [] false (.tuple [.nils, .bool false]) (A ++ B) := ⟨_, [], rfl, .inl ⟨rfl, rfl, rfl⟩, by simp, by simp, by simp, fun i hi => Abs.getD_append_left hi⟩
set_option maxRecDepth 100000 in
theorem impl_StrengthenSig (s : List SigI) (hs : s.length ≤ 1048576) (ho : ∀ x ∈ s, x.Ok ∧ sz x.typ ≤ 1048576) (mod : List UInt8) (A : List Box) : ACalls Tryz.prog 6 [.slice (sEs s), .str mod] A (fun r A' => ∃ o, RdS s mod o ∧ SgOut A (nrX o) o.isSome r A') := by
  refine acalls_enterK (cf := cf 24 [0, 1, 4, 5, 6, 7, 19]) foll Tryz.func6 Tryz.ntmps6 (by simp [cf]) ?_
  simp only [Tryz.f6, EnterK_some, zW, zX, zD, builtinA, isLeaf, const1, ustrA, simprocAttr, ca13, ca18, ca19, ca20, cf, Tryz.results6]
  refine callO_intro (impl_readSigK s hs ho _) ?_
  rintro r A1 ⟨B, rfl, ⟨ys, j, h8, hr, rfl, hj, hg⟩ | ⟨hbad, rfl⟩⟩
  · have hyl := hr.1
    cases hord : ordB ys with
    | false =>
      simp only [zW, zX, zD, builtinA, isLeaf, const1, ustrA, simprocAttr, ca13, ca18, ca19, ca20, cf, Tryz.results6]
      exact ⟨none, .inl (by rw [sigB_reads h8 hr]; exact hord), sg_none A B⟩
    | true =>
      simp only [zW, zX, zD, builtinA, isLeaf, const1, ustrA, simprocAttr, ca13, ca18, ca19, ca20, cf, Tryz.results6]
      refine callK_intro (by simp only [zW, zX, zD, builtinA, isLeaf, const1, ustrA, simprocAttr, Option.map_some]; rfl) (impl_ModuleName mod _) ?_ rfl; rintro v A' ⟨rfl, rfl⟩
      cases hm : moduleB mod with
      | false =>
        simp only [zW, zX, zD, builtinA, isLeaf, const1, ustrA, simprocAttr, ca13, ca18, ca19, ca20, cf, Tryz.results6]
        exact ⟨none, .inr hm, sg_none A B⟩
      | true =>
        have hg2 : (A ++ B).getD (A.length + j) .dead = .row 1 (vRows ys) 0 := by rw [Abs.getD_append_right (by omega), Nat.add_sub_cancel_left]; exact hg
        simp only [zW, zX, zD, builtinA, isLeaf, const1, ustrA, simprocAttr, ca13, ca18, ca19, ca20, cf, Tryz.results6]
        refine callO_intro (impl_strengthen mod ys (A.length + j) (A ++ B) hg2 (by simp; omega) (by omega)) ?_
        rintro r A' ⟨C, k, rfl, rfl, hk, hgk⟩
        simp only [zW, zX, zD, builtinA, isLeaf, const1, ustrA, simprocAttr, ca13, ca18, ca19, ca20, cf, Tryz.results6]
        have h1 : (A ++ (B ++ C)).getD (A.length + B.length + k) .dead = .row 1 (vRows (ys.map (strI mod))) 0 := by
          rw [Abs.getD_append_right (by omega), show A.length + B.length + k - A.length = B.length + k by omega, Abs.getD_append_right (by omega), show B.length + k - B.length = k by omega]; exact hgk
        have hfz : frzs [.own (A.length + B.length + k)] (A ++ (B ++ C)) = some ([.slice (vRows (ys.map (strI mod)))], A ++ (B ++ C).set (B.length + k) (.row 1 (vRows (ys.map (strI mod))) (vRows (ys.map (strI mod))).length)) := by
          have h2 : (A ++ (B ++ C)).set (A.length + B.length + k) (.row 1 (vRows (ys.map (strI mod))) (vRows (ys.map (strI mod))).length) = A ++ (B ++ C).set (B.length + k) (.row 1 (vRows (ys.map (strI mod))) (vRows (ys.map (strI mod))).length) := by
            rw [List.set_append_right _ _ (by omega), show A.length + B.length + k - A.length = B.length + k by omega]
          simp only [frzs, frzC, frz1, h1, h2]
        refine callK_intro hfz (impl_plainSig (ys.map (strI mod)) (by simp; omega) _) ?_ rfl
        rintro r A' ⟨i, rfl, hle, hf, rows, S, hgi, hO, hN, hge⟩
        simp only [zW, zX, zD, builtinA, isLeaf, const1, ustrA, simprocAttr, ca13, ca18, ca19, ca20, cf, Tryz.results6]
        simp only [List.length_append, List.length_set] at hle hge
        exact ⟨some _, ⟨ys, h8, hr, hord, hm, rfl⟩, _, i :: S, rfl, .inr ⟨i, rows, S, rfl, rfl, hgi, hO⟩, hN, fun x hx => by have := hge x hx; omega, by omega, fun x hx => by rw [hf x (by simp; omega), Abs.getD_append_left hx]⟩
  · simp only [zW, zX, zD, builtinA, isLeaf, const1, ustrA, simprocAttr, ca13, ca18, ca19, ca20, cf, Tryz.results6]
    exact ⟨none, .inl (sigB_bad hbad), sg_none A B⟩

/-! ### the model -/
theorem ready {s : List SigI} {ys : List VI} (h : ReadsTo s ys) {i : Nat} (hi : i < s.length) : s.getD i si0 = siOf (ys.getD i vi0) := itemOf_si (h.2 i hi).2
theorem mix_get {Z D : List SigI} (x : SigI) {i : Nat} (hz : Z.length = i) : (sEs (Z ++ x :: D)).getD i [] = sE x := by
  rw [sEs_app, Abs.getD_append_right (by rw [sEs_length]; omega), sEs_length, hz, Nat.sub_self]; rfl
theorem mix_put {Z D : List SigI} (x y : SigI) {i : Nat} (hz : Z.length = i) : (sEs (Z ++ x :: D)).set i (sE y) = sEs (Z ++ y :: D) := by
  rw [sEs_app, List.set_append_right _ _ (by rw [sEs_length]; omega), sEs_length, hz, Nat.sub_self, sEs_app]; rfl
set_option maxRecDepth 100000 in
theorem spec_l2Strong (s : List SigI) (ys : List VI) (hs : s.length ≤ 8) (hz : ∀ x ∈ s, sz x.typ ≤ 1048576) (hr : ReadsTo s ys) (mod : List UInt8) (A : List Box) : ACalls Tryz.prog 24 [.slice (sEs s), .str mod] A (fun r A' => ∃ B j, A' = A ++ B ∧ r = .own (A.length + j) ∧ j < B.length ∧ B.getD j .dead = .row 6 (sEs ((ys.map (strI mod)).map siOf)) 0) := by
  have hyl := hr.1
  refine acalls_enterK (cf := cf 37 [0, 1, 4, 5, 6, 12, 20]) foll Tryz.func24 Tryz.ntmps24 (by simp [cf]) ?_
  simp only [Tryz.f24, EnterK_some, zW, zX, zD, builtinA, isLeaf, const1, ustrA, simprocAttr, ti3, ti9, ti23, ti32, ti34, ca32, ca36, cf, Tryz.results24]
  refine callO_intro (spec_l2Copy s (by omega) hz _) ?_
  rintro r A' ⟨B, j, rfl, rfl, hj, hg⟩
  simp only [zW, zX, zD, builtinA, isLeaf, const1, ustrA, simprocAttr, ti3, ti9, ti23, ti32, ti34, ca32, ca36, cf, Tryz.results24]
  refine aloop_intro [1, 5, 6] (fun e A' => ∃ i B, i ≤ s.length ∧ e = [(1, .str mod), (5, .own (A.length + j)), (6, .int .i64 i)] ∧ A' = A ++ B ∧ j < B.length ∧ B.getD j .dead = .row 6 (sEs (((ys.take i).map (strI mod)).map siOf ++ s.drop i)) 0) (fun e _ => s.length - (intOf (Abs.look 6 e)).toNat) ?_ ?_
  · simp only [zW, zX, zD, builtinA, isLeaf, const1, ustrA, simprocAttr, ti3, ti9, ti23, ti32, ti34, ca32, ca36, cf, Tryz.results24]
    exact ⟨0, B, by omega, rfl, rfl, hj, by simpa using hg⟩
  · rintro e A' ⟨i, B, hi, rfl, rfl, hj, hg⟩
    have hzl : (((ys.take i).map (strI mod)).map siOf).length = i := by simp; omega
    have hrl : (sEs (((ys.take i).map (strI mod)).map siOf ++ s.drop i)).length = s.length := by rw [sEs_length]; simp; omega
    simp only [zW, zX, zD, builtinA, isLeaf, const1, ustrA, simprocAttr, ti3, ti9, ti23, ti32, ti34, ca32, ca36, cf, Tryz.results24, hg, hj, hrl]
    refine condK_intro (fun h2 => ?_) (fun h2 => ?_)
    · have hi2 : i < s.length := by simpa using h2
      have hi1 : IntKind.i64.wrap ((i : Int) + 1) = ((i + 1 : Nat) : Int) := by rw [wrap64 (by omega) (by omega)]; rfl
      have pi : (0 : Int) ≤ (i : Int) ∧ (i : Int) < (s.length : Int) := ⟨by omega, by omega⟩
      have hm := mix_getD hzl hi2
      have hset := fun x => mix_set x hzl hi2
      have hdr := mix_drop hi2
      have hsi := ready hr hi2
      have htk : ((ys.take (i + 1)).map (strI mod)).map siOf = ((ys.take i).map (strI mod)).map siOf ++ [siOf (strI mod (ys.getD i vi0))] := by
        rw [List.take_add_one, List.map_append, List.map_append]; simp [List.getD, show i < ys.length by omega]
      rw [hsi] at hm hdr
      generalize ys.getD i vi0 = y at *
      cases y with
      | ab n =>
        have hN := fun A => spec_l1Name0 mod n A
        have hset1 := hset ⟨2, n, ty0⟩
        have hm2 := mix_get (D := s.drop (i + 1)) ⟨2, n, ty0⟩ hzl
        have hset2 := mix_put (D := s.drop (i + 1)) ⟨2, n, ty0⟩ ⟨2, n, .mk 3 mod n []⟩ hzl
        have hl2 : ∀ x, (sEs (((ys.take i).map (strI mod)).map siOf ++ x :: s.drop (i + 1))).length = s.length := fun x => by rw [sEs_length, List.length_append, hzl]; simp; omega
        simp only [siOf, sE, ty0, enc, encs] at hm hset1 hm2 hset2 hN
        have hgj : ∀ X : Box, (B.set j X).getD j .dead = X := fun X => getD_set_self hj
        simp only [zW, zX, zD, builtinA, isLeaf, const1, ustrA, simprocAttr, ti3, ti9, ti23, ti32, ti34, ca32, ca36, cf, Tryz.results24, hm, hset1, hm2, hset2, hl2, hg, hj, hgj, hrl]
        refine ⟨pi, pi, ⟨by omega, by omega, fun w hw => by rw [List.mem_singleton.1 hw]⟩, pi, ?_⟩
        refine callK_intro (by simp only [zW, zX, zD, builtinA, isLeaf, const1, ustrA, simprocAttr, Option.map_some]; rfl) (hN _) ?_ rfl; rintro v A' ⟨rfl, rfl⟩
        simp only [zW, zX, zD, builtinA, isLeaf, const1, ustrA, simprocAttr, ti3, ti9, ti23, ti32, ti34, ca32, ca36, cf, Tryz.results24, hm, hset1, hm2, hset2, hl2, hg, hj, hgj, hrl, List.set_set, hi1, LoopK_eq]
        have lf : ∀ w ∈ [AV.int .i64 3, AV.str mod, AV.str n, AV.slice []], isLeaf w = true := by simp [isLeaf]
        refine ⟨pi, ⟨by omega, by omega, fun w hw => lf w hw⟩, ⟨i + 1, _, by omega, rfl, rfl, by simpa using hj, by rw [hgj, htk]; simp [siOf, strI, toTy]⟩, ?_⟩
        simp only [intOf]; omega
      | al n v =>
        simp only [siOf, sE] at hm
        simp only [zW, zX, zD, builtinA, isLeaf, const1, ustrA, simprocAttr, ti3, ti9, ti23, ti32, ti34, ca32, ca36, cf, Tryz.results24, hm, hg, hj, hrl, enc_length]
        refine ⟨pi, ?_⟩
        simp only [zW, zX, zD, builtinA, isLeaf, const1, ustrA, simprocAttr, ti3, ti9, ti23, ti32, ti34, ca32, ca36, cf, Tryz.results24, hi1, LoopK_eq]
        refine ⟨⟨i + 1, B, by omega, rfl, rfl, hj, ?_⟩, ?_⟩
        · rw [hg, htk, hdr]; simp [strI]
        · simp only [intOf]; omega
      | va n v =>
        simp only [siOf, sE] at hm
        simp only [zW, zX, zD, builtinA, isLeaf, const1, ustrA, simprocAttr, ti3, ti9, ti23, ti32, ti34, ca32, ca36, cf, Tryz.results24, hm, hg, hj, hrl, enc_length]
        refine ⟨pi, ?_⟩
        simp only [zW, zX, zD, builtinA, isLeaf, const1, ustrA, simprocAttr, ti3, ti9, ti23, ti32, ti34, ca32, ca36, cf, Tryz.results24, hi1, LoopK_eq]
        refine ⟨⟨i + 1, B, by omega, rfl, rfl, hj, ?_⟩, ?_⟩
        · rw [hg, htk, hdr]; simp [strI]
        · simp only [intOf]; omega
    · have hi2 : i = s.length := by simp at h2; omega
      subst hi2
      simp only [zW, zX, zD, builtinA, isLeaf, const1, ustrA, simprocAttr, ti3, ti9, ti23, ti32, ti34, ca32, ca36, cf, Tryz.results24]
      refine ⟨B, j, rfl, rfl, hj, ?_⟩
      rw [hg, List.drop_length, List.append_nil, ← hyl, List.take_length]

set_option maxRecDepth 100000 in
theorem spec_StrengthenSig (s : List SigI) (hs : s.length ≤ 1048576) (ho : ∀ x ∈ s, x.Ok ∧ sz x.typ ≤ 1048576) (mod : List UInt8) (A : List Box) : ACalls Tryz.prog 7 [.slice (sEs s), .str mod] A (fun r A' => ∃ o, RdS s mod o ∧ r = nrR o ∧ A' = A) := by
  refine acalls_enter (cf := cf 21 [0, 1, 4, 5, 13]) foll Tryz.func7 Tryz.ntmps7 (by simp [cf]) ?_
  simp only [Tryz.f7, EnterK_some, zW, zX, zD, builtinA, isLeaf, const1, ustrA, simprocAttr, ti23, ti34, ca21, ca22, ca23, ca24, cf, Tryz.results7]
  refine callO_intro (spec_SigValid s hs ho _) ?_
  rintro r A' ⟨rfl, hA⟩
  have hA := hA.symm
  subst hA
  cases hb : sigB s with
  | false =>
    simp only [zW, zX, zD, builtinA, isLeaf, const1, ustrA, simprocAttr, ti23, ti34, ca21, ca22, ca23, ca24, cf, Tryz.results7]
    exact ⟨none, .inl hb, rfl⟩
  | true =>
    obtain ⟨ys, h8, hr, hord⟩ := sigB_yes hb
    have hys := hr.1
    simp only [zW, zX, zD, builtinA, isLeaf, const1, ustrA, simprocAttr, ti23, ti34, ca21, ca22, ca23, ca24, cf, Tryz.results7]
    refine callO_intro (spec_ModuleName mod _) ?_
    rintro r A' ⟨rfl, hA⟩
    have hA := hA.symm
    subst hA
    cases hm : moduleB mod with
    | false =>
      simp only [zW, zX, zD, builtinA, isLeaf, const1, ustrA, simprocAttr, ti23, ti34, ca21, ca22, ca23, ca24, cf, Tryz.results7]
      exact ⟨none, .inr hm, rfl⟩
    | true =>
      simp only [zW, zX, zD, builtinA, isLeaf, const1, ustrA, simprocAttr, ti23, ti34, ca21, ca22, ca23, ca24, cf, Tryz.results7]
      refine callO_intro (spec_l2Strong s ys h8 (fun x hx => (ho x hx).2) hr mod _) ?_
      rintro r A' ⟨B, j, rfl, rfl, hj, hg⟩
      have h1 : (A ++ B).getD (A.length + j) .dead = .row 6 (sEs ((ys.map (strI mod)).map siOf)) 0 := by
        rw [Abs.getD_append_right (by omega), show A.length + j - A.length = j by omega]; exact hg
      have hfz : frzs [.own (A.length + j)] (A ++ B) = some ([.slice (sEs ((ys.map (strI mod)).map siOf))], A ++ B.set j (.row 6 (sEs ((ys.map (strI mod)).map siOf)) (sEs ((ys.map (strI mod)).map siOf)).length)) := by
        have h2 : (A ++ B).set (A.length + j) (.row 6 (sEs ((ys.map (strI mod)).map siOf)) (sEs ((ys.map (strI mod)).map siOf)).length) = A ++ B.set j (.row 6 (sEs ((ys.map (strI mod)).map siOf)) (sEs ((ys.map (strI mod)).map siOf)).length) := by simp [List.set_append]
        simp only [frzs, frzC, frz1, h1, h2]
      have hsg : sigB ((ys.map (strI mod)).map siOf) = true := by rw [sigB_reads (by simp; omega) (str_reads hm hr)]; exact ordB_str hm hord
      have hzk : ∀ x ∈ (ys.map (strI mod)).map siOf, x.Ok ∧ sz x.typ ≤ 1048576 := fun x hx => by
        obtain ⟨z, hz1, rfl⟩ := List.mem_map.1 hx
        obtain ⟨y, hy1, rfl⟩ := List.mem_map.1 hz1
        obtain ⟨k, hk, rfl⟩ := List.mem_iff_getElem.1 hy1
        have e : ys[k] = ys.getD k vi0 := by simp [List.getD, hk]
        have h3 := hr.2 k (by omega)
        rw [e]
        refine siOf_ok (str_ok hm hr hk) ?_
        rw [viK_str, ← siOf_name, ← itemOf_si h3.2]
        exact (ho _ (si_mem (by omega))).1.1
      simp only [zW, zX, zD, builtinA, isLeaf, const1, ustrA, simprocAttr, ti23, ti34, ca21, ca22, ca23, ca24, cf, Tryz.results7]
      refine callK_intro hfz (spec_l2Made _ (by simp; omega) hzk _) ?_ rfl
      rintro r A' ⟨rfl, rfl⟩
      rw [if_pos hsg]
      simp only [sgR]
      simp only [zW, zX, zD, builtinA, isLeaf, const1, ustrA, simprocAttr, ti23, ti34, ca21, ca22, ca23, ca24, cf, Tryz.results7]
      exact ⟨some (ys.map (strI mod)), ⟨ys, h8, hr, hord, hm, rfl⟩, rfl⟩
end Go.Proofs.YtngheinmebopeaaGreat

/- Equality of signatures: the program's and the model's. -/
set_option linter.unusedVariables false
set_option linter.unusedSimpArgs false
namespace Go.Proofs.YtngheinmebopeaaGreat
open Go.Abs

noncomputable def siB (x y : SigI) : Bool := (decide (x.kind = y.kind) && decide (x.name = y.name)) && decide (x.typ = y.typ)
noncomputable def sisB : List SigI → List SigI → Bool
  | [], [] => true
  | x :: a, y :: b => siB x y && sisB a b
  | _, _ => false
theorem sisB_len : ∀ {a b : List SigI}, a.length ≠ b.length → sisB a b = false
  | [], [], h => absurd rfl h
  | [], _ :: _, _ => by simp [sisB]
  | _ :: _, [], _ => by simp [sisB]
  | x :: a, y :: b, h => by simp [sisB, sisB_len (a := a) (b := b) (by simpa using h)]
end Go.Proofs.YtngheinmebopeaaGreat

/- The source of the drawn arguments. -/
set_option linter.unusedVariables false
set_option linter.unusedSimpArgs false
namespace Go.Proofs.YtngheinmebopeaaGreat
open Go.Abs

def Rd (bs : List UInt8) (p : Nat) : Box := .cells [.aslice (byteRows bs), .int .i64 p]
theorem rd_closed (n : Nat) (bs : List UInt8) (p : Nat) : boxClosed n (Rd bs p) = true := rfl
theorem byteRows_length (bs : List UInt8) : (byteRows bs).length = bs.length := by simp [byteRows]
theorem byteRows_getD {bs : List UInt8} {i : Nat} (h : i < bs.length) : (byteRows bs).getD i [] = [.int .u8 ((bs.getD i 0).toNat : Nat)] := by simp [byteRows, List.getD, h]
theorem byte_lt (b : UInt8) : (b.toNat : Int) < 256 := by have := b.toNat_lt; omega

theorem xor_wrap {X : Nat} (h : X < 2 ^ 62) : 0 ≤ IntKind.i64.wrap ((BitVec.ofInt IntKind.i64.bits (X : Int) ^^^ BitVec.ofInt IntKind.i64.bits (IntKind.i64.wrap ((X : Int).tdiv 64))).toNat : Int) := by
  have h1 : ((X : Int).tdiv 64) = ((X / 64 : Nat) : Int) := rfl
  have h2 : X / 64 < 2 ^ 62 := by omega
  have h4 : IntKind.i64.wrap ((X / 64 : Nat) : Int) = ((X / 64 : Nat) : Int) := wrap64 (by omega) (by omega)
  rw [h1, h4]
  show 0 ≤ IntKind.i64.wrap ((BitVec.ofInt 64 (X : Int) ^^^ BitVec.ofInt 64 ((X / 64 : Nat) : Int)).toNat : Int)
  have e1 : (BitVec.ofInt 64 (X : Int)).toNat = X := by rw [BitVec.toNat_ofInt]; omega
  have e2 : (BitVec.ofInt 64 ((X / 64 : Nat) : Int)).toNat = X / 64 := by rw [BitVec.toNat_ofInt]; omega
  rw [BitVec.toNat_xor, e1, e2]
  have h3 := Nat.xor_lt_two_pow h h2
  rw [wrap64 (by omega) (by omega)]
  omega

set_option maxRecDepth 100000 in
theorem spec_l17Open (bs : List UInt8) (A : List Box) : ACalls Tryz.prog 14 [.aslice (byteRows bs)] A (fun r A' => ∃ bs', bs'.length ≤ 2000 ∧ r = .ptr A.length 0 ∧ A' = A ++ [Rd bs' 0]) := by
  refine acalls_enterK (cf := cf 11 [0, 2, 5]) foll Tryz.func14 Tryz.ntmps14 (by simp [cf]) ?_
  simp only [Tryz.f14, EnterK_some, zW, zX, zD, builtinA, isLeaf, const1, ustrA, simprocAttr, ti3, ti5, ti22, ti79, cf, Tryz.results14]
  refine condK_intro (fun h => ?_) (fun h => ?_)
  · simp [byteRows_length] at h
    simp only [zW, zX, zD, builtinA, isLeaf, const1, ustrA, simprocAttr, ti3, ti5, ti22, ti79, cf, Tryz.results14]
    refine ⟨⟨by simp [byteRows], by rw [byteRows_length]; omega⟩, bs.take 2000, (by rw [List.length_take]; omega), by simp [Rd, byteRows, List.map_take]⟩
  · have h' : bs.length ≤ 2000 := by simp [byteRows_length] at h; omega
    simp only [zW, zX, zD, builtinA, isLeaf, const1, ustrA, simprocAttr, ti3, ti5, ti22, ti79, cf, Tryz.results14]
    exact ⟨bs, h', rfl⟩

set_option maxRecDepth 100000 in
theorem spec_pick (bs : List UInt8) (p : Nat) (n : Int) (i : Nat) (A : List Box) (hi : i < A.length) (hA : A.getD i .dead = Rd bs p) (hp : p < 2 ^ 40) (hn : n < 2 ^ 40) :
    ACalls Tryz.prog 33 [.ptr i 0, .int .i64 n] A (fun r A' => ∃ j : Int, r = .int .i64 j ∧ 0 ≤ j ∧ (1 ≤ n → j < n) ∧ A' = A.set i (Rd bs (p + 1))) := by
  rw [Rd] at hA
  have hp1 : IntKind.i64.wrap ((p : Int) + 1) = ((p + 1 : Nat) : Int) := by rw [wrap64 (by omega) (by omega)]; rfl
  refine acalls_enter (cf := cf 99 [0, 1, 4, 5, 6, 24, 36]) foll Tryz.func33 Tryz.ntmps33 (by simp [cf]) ?_
  simp only [Tryz.f33, EnterK_some, zW, zX, zD, builtinA, isLeaf, const1, ustrA, simprocAttr, ti3, ti5, ti22, ti79, cf, Tryz.results33]
  simp only [zW, zX, zD, builtinA, isLeaf, const1, ustrA, simprocAttr, ti3, ti5, ti22, ti79, cf, Tryz.results33, hA, hi, hp1]
  have hout : Outer A (A.set i (.cells [.aslice (byteRows bs), .int .i64 ((p + 1 : Nat) : Int)])) := outer_set0 A i _ rfl
  by_cases hn1 : n < 1
  · have e1 : decide (n < 1) = true := decide_eq_true hn1
    simp only [zW, zX, zD, builtinA, isLeaf, const1, ustrA, simprocAttr, ti3, ti5, ti22, ti79, cf, Tryz.results33, hA, hi, hp1, e1]
    exact ⟨hout, 0, rfl, by omega, by omega, rfl⟩
  · have e1 : decide (n < 1) = false := decide_eq_false hn1
    simp only [zW, zX, zD, builtinA, isLeaf, const1, ustrA, simprocAttr, ti3, ti5, ti22, ti79, cf, Tryz.results33, hA, hi, hp1, e1, byteRows_length]
    by_cases hb : bs.length = 0
    · have e2 : decide ((bs.length : Int) = 0) = true := decide_eq_true (by omega)
      simp only [zW, zX, zD, builtinA, isLeaf, const1, ustrA, simprocAttr, ti3, ti5, ti22, ti79, cf, Tryz.results33, hA, hi, hp1, e1, e2, byteRows_length]
      exact ⟨hout, 0, rfl, by omega, by omega, rfl⟩
    · have e2 : decide ((bs.length : Int) = 0) = false := decide_eq_false (by omega)
      have hp2 : IntKind.i64.wrap (((p + 1 : Nat) : Int) - 1) = (p : Int) := by rw [wrap64 (by omega) (by omega)]; omega
      simp only [zW, zX, zD, builtinA, isLeaf, const1, ustrA, simprocAttr, ti3, ti5, ti22, ti79, cf, Tryz.results33, hA, hi, hp1, hp2, e1, e2, byteRows_length]
      by_cases hk : p < bs.length
      · have e3 : decide ((p : Int) < bs.length) = true := decide_eq_true (by omega)
        simp only [zW, zX, zD, builtinA, isLeaf, const1, ustrA, simprocAttr, ti3, ti5, ti22, ti79, cf, Tryz.results33, hA, hi, hp1, hp2, e1, e2, e3, byteRows_length, byteRows_getD hk]
        have hb0 := byte_lt (bs.getD p 0)
        rw [wrap64 (by omega) (by omega)]
        have hr0 := Int.tmod_nonneg n (show (0 : Int) ≤ ((bs.getD p 0).toNat : Nat) by omega)
        have hr1 := Int.tmod_lt_of_pos (((bs.getD p 0).toNat : Nat) : Int) (show (0 : Int) < n by omega)
        exact ⟨by omega, by omega, hout, _, rfl, hr0, fun _ => hr1, rfl⟩
      · have e3 : decide ((p : Int) < bs.length) = false := decide_eq_false (by omega)
        simp only [zW, zX, zD, builtinA, isLeaf, const1, ustrA, simprocAttr, ti3, ti5, ti22, ti79, cf, Tryz.results33, hA, hi, hp1, hp2, e1, e2, e3, byteRows_length]
        refine .inl ⟨by kernel_rfl, by kernel_rfl, ?_⟩
        obtain ⟨L, hL⟩ : ∃ L, L = bs.length := ⟨_, rfl⟩
        have hL0 : 0 < L := by omega
        have hm0 : p % L < L := Nat.mod_lt _ hL0
        have hm1 : (p * 7 + 3) % L < L := Nat.mod_lt _ hL0
        have hq : p / L ≤ p := Nat.div_le_self _ _
        obtain ⟨b0, hb0⟩ : ∃ b0 : Nat, b0 = (bs.getD (p % L) 0).toNat := ⟨_, rfl⟩
        obtain ⟨b1, hb1⟩ : ∃ b1 : Nat, b1 = (bs.getD ((p * 7 + 3) % L) 0).toNat := ⟨_, rfl⟩
        have hb0l : b0 < 256 := by rw [hb0]; exact (bs.getD (p % L) 0).toNat_lt
        have hb1l : b1 < 256 := by rw [hb1]; exact (bs.getD ((p * 7 + 3) % L) 0).toNat_lt
        have g0 : (byteRows bs).getD (p % L) [] = [.int .u8 (b0 : Int)] := by rw [byteRows_getD (by omega), hb0]
        have g1 : (byteRows bs).getD ((p * 7 + 3) % L) [] = [.int .u8 (b1 : Int)] := by rw [byteRows_getD (by omega), hb1]
        obtain ⟨q, hqd⟩ : ∃ q, q = p / L := ⟨_, rfl⟩
        have t0 : ((p : Int)).tmod (L : Int) = ((p % L : Nat) : Int) := rfl
        have t1 : (((p * 7 + 3 : Nat)) : Int).tmod (L : Int) = (((p * 7 + 3) % L : Nat) : Int) := rfl
        have t2 : ((p : Int)).tdiv (L : Int) = (q : Int) := by rw [hqd]; rfl
        have w0 : IntKind.i64.wrap (b0 : Int) = b0 := wrap64 (by omega) (by omega)
        have w1 : IntKind.i64.wrap ((b0 : Int) * 131) = ((b0 * 131 : Nat) : Int) := by rw [wrap64 (by omega) (by omega)]; omega
        have w2 : IntKind.i64.wrap (b1 : Int) = b1 := wrap64 (by omega) (by omega)
        have w3 : IntKind.i64.wrap ((b1 : Int) * 1117) = ((b1 * 1117 : Nat) : Int) := by rw [wrap64 (by omega) (by omega)]; omega
        have w4 : IntKind.i64.wrap ((p : Int) * 7) = ((p * 7 : Nat) : Int) := by rw [wrap64 (by omega) (by omega)]; omega
        have w5 : IntKind.i64.wrap (((p * 7 : Nat) : Int) + 3) = ((p * 7 + 3 : Nat) : Int) := by rw [wrap64 (by omega) (by omega)]; omega
        have w6 : IntKind.i64.wrap (((b0 * 131 : Nat) : Int) + ((b1 * 1117 : Nat) : Int)) = ((b0 * 131 + b1 * 1117 : Nat) : Int) := by rw [wrap64 (by omega) (by omega)]; omega
        have w7 : IntKind.i64.wrap ((p : Int) * 29) = ((p * 29 : Nat) : Int) := by rw [wrap64 (by omega) (by omega)]; omega
        have w8 : IntKind.i64.wrap (((b0 * 131 + b1 * 1117 : Nat) : Int) + ((p * 29 : Nat) : Int)) = ((b0 * 131 + b1 * 1117 + p * 29 : Nat) : Int) := by rw [wrap64 (by omega) (by omega)]; omega
        have w9 : IntKind.i64.wrap (q : Int) = q := wrap64 (by omega) (by omega)
        have wa : IntKind.i64.wrap ((q : Int) * 53) = ((q * 53 : Nat) : Int) := by rw [wrap64 (by omega) (by omega)]; omega
        have wb : IntKind.i64.wrap (((b0 * 131 + b1 * 1117 + p * 29 : Nat) : Int) + ((q * 53 : Nat) : Int)) = ((b0 * 131 + b1 * 1117 + p * 29 + q * 53 : Nat) : Int) := by rw [wrap64 (by omega) (by omega)]; omega
        rw [← hL]
        simp only [zW, zX, zD, builtinA, isLeaf, const1, ustrA, simprocAttr, ti3, ti5, ti22, ti79, cf, Tryz.results33, hA, hi, hp1, hp2, e1, e2, e3, byteRows_length, ← hL, t0, t1, t2, w0, w1, w2, w3, w4, w5, w6, w7, w8, w9, wa, wb, g0, g1]
        obtain ⟨X, hX⟩ : ∃ X, X = b0 * 131 + b1 * 1117 + p * 29 + q * 53 := ⟨_, rfl⟩
        have hXl : X < 2 ^ 62 := by omega
        rw [← hX]
        have hx := xor_wrap hXl
        refine ⟨by omega, ⟨by omega, by omega⟩, by omega, ⟨by omega, by omega⟩, by omega, by omega, hout, _, rfl, Int.tmod_nonneg n hx, fun _ => Int.tmod_lt_of_pos _ (by omega), rfl⟩

set_option maxRecDepth 100000 in
theorem spec_of (bs : List UInt8) (p : Nat) (l : List (List UInt8)) (i : Nat) (A : List Box) (hi : i < A.length) (hA : A.getD i .dead = Rd bs p) (hp : p < 2 ^ 40) (hl : 0 < l.length ∧ l.length < 1000) :
    ACalls Tryz.prog 17 [.ptr i 0, .slice (l.map fun s => [.str s])] A (fun r A' => ∃ s, r = .str s ∧ s ∈ l ∧ A' = A.set i (Rd bs (p + 1))) := by
  have hll : (l.map fun s => [AV.str s]).length = l.length := by simp
  refine acalls_enter (cf := cf 12 [0, 1, 4]) foll Tryz.func17 Tryz.ntmps17 (by simp [cf]) ?_
  simp only [Tryz.f17, EnterK_some, zW, zX, zD, builtinA, isLeaf, const1, ustrA, simprocAttr, ti9, ti49, ca33, cf, Tryz.results17]
  simp only [hll]
  refine callK_intro (by simp only [zW, zX, zD, builtinA, isLeaf, const1, ustrA, simprocAttr]; rfl) (spec_pick bs p _ i _ hi hA hp (by omega)) ?_ rfl
  rintro v A' ⟨j, rfl, h0, h1, rfl⟩
  obtain ⟨k, rfl⟩ := Int.eq_ofNat_of_zero_le h0
  have hk : k < l.length := by have := h1 (by omega); omega
  have hg : (l.map fun s => [AV.str s]).getD k [] = [.str (l.getD k [])] := by simp [List.getD, hk]
  simp only [zW, zX, zD, builtinA, isLeaf, const1, ustrA, simprocAttr, ti9, ti49, ca33, cf, Tryz.results17, hi, hll, hg]
  exact ⟨⟨by omega, by omega⟩, outer_set0 A i _ (rd_closed _ _ _), _, rfl, Abs.getD_mem hk⟩

set_option maxRecDepth 100000 in
theorem spec_num (bs : List UInt8) (p : Nat) (l : List Int) (i : Nat) (A : List Box) (hi : i < A.length) (hA : A.getD i .dead = Rd bs p) (hp : p < 2 ^ 40) (hl : 0 < l.length ∧ l.length < 1000) :
    ACalls Tryz.prog 34 [.ptr i 0, .slice (l.map fun s => [.int .i64 s])] A (fun r A' => ∃ s, r = .int .i64 s ∧ s ∈ l ∧ A' = A.set i (Rd bs (p + 1))) := by
  have hll : (l.map fun s => [AV.int .i64 s]).length = l.length := by simp
  refine acalls_enter (cf := cf 12 [0, 1, 4]) foll Tryz.func34 Tryz.ntmps34 (by simp [cf]) ?_
  simp only [Tryz.f34, EnterK_some, zW, zX, zD, builtinA, isLeaf, const1, ustrA, simprocAttr, ti3, ti83, ca33, cf, Tryz.results34]
  simp only [hll]
  refine callK_intro (by simp only [zW, zX, zD, builtinA, isLeaf, const1, ustrA, simprocAttr]; rfl) (spec_pick bs p _ i _ hi hA hp (by omega)) ?_ rfl
  rintro v A' ⟨j, rfl, h0, h1, rfl⟩
  obtain ⟨k, rfl⟩ := Int.eq_ofNat_of_zero_le h0
  have hk : k < l.length := by have := h1 (by omega); omega
  have hg : (l.map fun s => [AV.int .i64 s]).getD k [] = [.int .i64 (l.getD k 0)] := by simp [List.getD, hk]
  simp only [zW, zX, zD, builtinA, isLeaf, const1, ustrA, simprocAttr, ti3, ti83, ca33, cf, Tryz.results34, hi, hll, hg]
  exact ⟨⟨by omega, by omega⟩, outer_set0 A i _ (rd_closed _ _ _), _, rfl, Abs.getD_mem hk⟩

end Go.Proofs.YtngheinmebopeaaGreat

/- Drawn types. -/
set_option linter.unusedVariables false
set_option linter.unusedSimpArgs false
namespace Go.Proofs.YtngheinmebopeaaGreat
open Go.Abs

theorem enc_closed (t : Ty) (n : Nat) : (enc t).all (closed1 n) = true := by cases t; rfl
theorem enc_drop (t : Ty) : List.drop 4 (enc t) = [] := by cases t; rw [enc]; rfl
set_option maxRecDepth 100000 in
theorem spec_l1Num (A : List Box) : ACalls Tryz.prog 37 [] A (fun r A' => r = .agg (enc (toTy .num)) ∧ A' = A) := by
  rw [toTy, enc, encs]
  refine acalls_enter (cf := cf 2 [0]) foll Tryz.func37 Tryz.ntmps37 (by simp [cf]) ?_
  simp only [Tryz.f37, EnterK_some, zW, zX, zD, builtinA, isLeaf, const1, Nat.reduceAdd, Nat.reduceMul, Nat.reduceSub, Nat.reduceLT, Nat.reduceLeDiff, Nat.reduceEqDiff, Nat.reduceBEq, Nat.reduceBNe, reduceIte, reduceCtorEq, Int.reduceToNat, Int.reduceLT, Int.reduceLE, Int.reduceEq, Int.reduceNe, Int.reduceNeg, ustrA, ti32, cf, Tryz.results37]
set_option maxRecDepth 100000 in
theorem spec_l1Name (m n : List UInt8) (A : List Box) : ACalls Tryz.prog 36 [.str m, .str n] A (fun r A' => r = .agg (enc (toTy (.nm m n))) ∧ A' = A) := by
  rw [toTy, enc, encs]
  refine acalls_enter (cf := cf 8 [0, 1, 4]) foll Tryz.func36 Tryz.ntmps36 (by simp [cf]) ?_
  simp only [Tryz.f36, EnterK_some, zW, zX, zD, builtinA, isLeaf, const1, Nat.reduceAdd, Nat.reduceMul, Nat.reduceSub, Nat.reduceLT, Nat.reduceLeDiff, Nat.reduceEqDiff, Nat.reduceBEq, Nat.reduceBNe, reduceIte, reduceCtorEq, Int.reduceToNat, Int.reduceLT, Int.reduceLE, Int.reduceEq, Int.reduceNe, Int.reduceNeg, ustrA, ti32, cf, Tryz.results36]
set_option maxRecDepth 100000 in
theorem spec_l1Fun (a b : Ty) (A : List Box) : ACalls Tryz.prog 55 [.agg (enc a), .agg (enc b)] A (fun r A' => r = .agg (enc (.mk 2 [] [] [a, b])) ∧ A' = A) := by
  rw [enc, encs, encs, encs]
  refine acalls_enter (cf := cf 9 [0, 1, 2, 3, 4]) foll Tryz.func55 Tryz.ntmps55 (by simp [cf]) ?_
  simp only [Tryz.f55, EnterK_some, zW, zX, zD, builtinA, isLeaf, const1, Nat.reduceAdd, Nat.reduceMul, Nat.reduceSub, Nat.reduceLT, Nat.reduceLeDiff, Nat.reduceEqDiff, Nat.reduceBEq, Nat.reduceBNe, reduceIte, reduceCtorEq, Int.reduceToNat, Int.reduceLT, Int.reduceLE, Int.reduceEq, Int.reduceNe, Int.reduceNeg, ustrA, ti30, ti32, cf, Tryz.results55]
  simp only [enc_take, enc_length]
  simp only [zW, zX, zD, builtinA, isLeaf, const1, Nat.reduceAdd, Nat.reduceMul, Nat.reduceSub, Nat.reduceLT, Nat.reduceLeDiff, Nat.reduceEqDiff, Nat.reduceBEq, Nat.reduceBNe, reduceIte, reduceCtorEq, Int.reduceToNat, Int.reduceLT, Int.reduceLE, Int.reduceEq, Int.reduceNe, Int.reduceNeg, ustrA, ti30, ti32, cf, Tryz.results55, frzL_enc, enc_take, enc_length]
  exact ⟨fun v hv => enc_leaf a v hv, fun v hv => enc_leaf b v hv⟩
end Go.Proofs.YtngheinmebopeaaGreat
