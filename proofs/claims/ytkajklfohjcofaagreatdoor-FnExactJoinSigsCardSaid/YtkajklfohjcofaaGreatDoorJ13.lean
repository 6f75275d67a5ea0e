/- JoinM, SpJoin, LawTy, Sigs, SigLaw. -/
import Derived.Test.YtkajklfohjcofaaGreatDoorJ12
import Derived.Test.YtkajklfohjcofaaGreatDoorAbsW3
/- What two signatures offer together: by the program and by the model. -/
set_option linter.unusedVariables false
set_option linter.unusedSimpArgs false
namespace Go.Proofs.YtkajklfohjcofaaGreatDoor
open Go.Abs

/-- the items of the first one, and those of the second one that have no counterpart in it -/
def jnK (ys zs : List VI) : List VI := ys ++ zs.filter fun z => !decide (viK z ∈ ys.map viK)
theorem jnK_snoc (ys : List VI) {zs : List VI} {p : Nat} (hp : p < zs.length) : jnK ys (zs.take (p + 1)) = if viK (zs.getD p vi0) ∈ ys.map viK then jnK ys (zs.take p) else jnK ys (zs.take p) ++ [zs.getD p vi0] := by
  have e : zs.take (p + 1) = zs.take p ++ [zs.getD p vi0] := by rw [List.take_add_one]; simp [List.getD, hp]
  rw [jnK, e, List.filter_append]
  split
  · rename_i h; rw [List.filter_cons_of_neg (by rw [decide_eq_true h]; simp)]; simp [jnK]
  · rename_i h; rw [List.filter_cons_of_pos (by rw [decide_eq_false h]; rfl)]; simp [jnK]
theorem jnK_len (ys zs : List VI) : (jnK ys zs).length ≤ ys.length + zs.length := by
  rw [jnK, List.length_append]
  have := List.length_filter_le (fun z => !decide (viK z ∈ ys.map viK)) zs
  omega

/-! ### the program -/
theorem pos_view (ys : List VI) (hl : ys.length ≤ 1000) (q : Ky) {A : List Box} {i : Nat} (hb : A.getD i .dead = .row 1 (vRows ys) 0) :
    ACalls Tryz.prog 95 [.own i, .agg (kE q)] A (fun r A' => (∃ n : Int, r = .int .i64 n ∧ decide (n < 0) = !decide (q ∈ ys.map viK)) ∧ A' = A) := by
  refine ACalls.borrow (.cons (.row i 1 0 (vRows ys) (vRows ys) hb rfl (vRows_leaf ys) (vRows_view ys _)) (.cons (.agg _ _ rfl fun k hk => .leaf _ (by have h2 : k < 2 := hk; match k, h2 with | 0, _ => rfl | 1, _ => rfl)) .nil)) ((impl_position ys hl q _).mono ?_)
  rintro r A' ⟨h, rfl⟩
  rcases h with ⟨j, hj, hk, rfl⟩ | ⟨hn, rfl⟩
  · refine ⟨[], by simp, rfl, by simp, ⟨_, rfl, ?_⟩, by simp⟩
    have hm : q ∈ ys.map viK := List.mem_map.2 ⟨ys.getD j vi0, by simp [List.getD, hj], hk⟩
    rw [decide_eq_true hm]
    exact decide_eq_false (by omega)
  · refine ⟨[], by simp, rfl, by simp, ⟨_, rfl, ?_⟩, by simp⟩
    have hm : q ∉ ys.map viK := fun h => by
      obtain ⟨y, hy, hk⟩ := List.mem_map.1 h
      obtain ⟨j, hj, rfl⟩ := List.mem_iff_getElem.1 hy
      exact hn j hj (by simpa [List.getD, hj] using hk)
    rw [decide_eq_false hm]
    rfl

set_option maxRecDepth 100000 in
set_option maxHeartbeats 4000000 in
theorem impl_merge (ys zs : List VI) (i k : Nat) (A : List Box) (hb : A.getD i .dead = .row 1 (vRows ys) 0) (hi : i < A.length) (hl : ys.length ≤ 100) (hb2 : A.getD k .dead = .row 1 (vRows zs) 0) (hk : k < A.length) (hl2 : zs.length ≤ 100) :
    ACalls Tryz.prog 56 [.own i, .own k] A (fun r A' => ∃ B j, A' = A ++ B ∧ r = .own (A.length + j) ∧ j < B.length ∧ B.getD j .dead = .row 1 (vRows (jnK ys zs)) 0) := by
  have hbi : ∀ B, (A ++ B).getD i .dead = .row 1 (vRows ys) 0 := fun B => by rw [Abs.getD_append_left hi]; exact hb
  have hbk : ∀ B, (A ++ B).getD k .dead = .row 1 (vRows zs) 0 := fun B => by rw [Abs.getD_append_left hk]; exact hb2
  refine acalls_enterK (cf := cf 27 [0, 1, 4, 5, 7, 10, 11, 12, 13, 20]) foll Tryz.func56 Tryz.ntmps56 (by simp [cf]) ?_
  simp only [Tryz.f56, EnterK_some, zW, zX, zD, builtinA, isLeaf, const1, ustrA, simprocAttr, ti3, ti64, ti87, ca94, ca95, cf, Tryz.results56]
  refine callO_intro (impl_cloneSig ys i A hb hi (by omega)) ?_
  rintro r A1 ⟨B, j, rfl, rfl, hj, hg⟩
  simp only [zW, zX, zD, builtinA, isLeaf, const1, ustrA, simprocAttr, ti3, ti64, ti87, ca94, ca95, cf, Tryz.results56, hbk, vRows_length]
  refine aloop_intro [0, 5, 10, 11, 12] (fun e A' => ∃ p j B, p ≤ zs.length ∧ e = [(0, .own i), (5, .own (A.length + j)), (10, .own k), (11, .int .i64 zs.length), (12, .int .i64 p)] ∧ A' = A ++ B ∧ j < B.length ∧ B.getD j .dead = .row 1 (vRows (jnK ys (zs.take p))) 0) (fun e _ => zs.length - (intOf (Abs.look 12 e)).toNat) ?_ ?_
  · simp only [zW, zX, zD, builtinA, isLeaf, const1, ustrA, simprocAttr, ti3, ti64, ti87, ca94, ca95, cf, Tryz.results56]
    exact ⟨0, j, B, by omega, rfl, rfl, hj, by rw [hg]; simp [jnK]⟩
  · clear hg hj
    rintro e A' ⟨p, j, B, hp, rfl, rfl, hj, hg⟩
    by_cases hp2 : p < zs.length
    · have d2 : decide ((p : Int) < (zs.length : Int)) = true := by simp; omega
      have he := vRows_getD hp2
      have hi1 : IntKind.i64.wrap ((p : Int) + 1) = ((p + 1 : Nat) : Int) := by rw [wrap64 (by omega) (by omega)]; rfl
      have pp : (0 : Int) ≤ (p : Int) ∧ (p : Int) < (zs.length : Int) := ⟨by omega, by omega⟩
      have hsn := jnK_snoc ys hp2
      have hjl := jnK_len ys (zs.take p)
      have hjl2 : (zs.take p).length ≤ 100 := by simp; omega
      generalize zs.getD p vi0 = y at *
      generalize jnK ys (zs.take p) = us at *
      rw [vRow] at he
      have hpv := pos_view ys (by omega) (viK y) (hbi B)
      simp only [kE] at hpv
      simp only [zW, zX, zD, builtinA, isLeaf, const1, ustrA, simprocAttr, ti3, ti64, ti87, ca94, ca95, cf, Tryz.results56, hbk, vRows_length, d2, he]
      refine ⟨pp, ?_⟩
      refine wpO_invoke _ _ _ _ _ _ _ _ _ _ _ _ _ _ _ _ ?_
      simp only [zW, zX, zD, builtinA, isLeaf, const1, ustrA, simprocAttr, ti3, ti64, ti87, ca94, ca95, cf, Tryz.results56]
      refine methI_invK (metI3 (by kernel_rfl) (by kernel_rfl) (by kernel_rfl) (by kernel_rfl) (by kernel_rfl) (by kernel_rfl)) (keyI y _) rfl (fun _ => rfl) ?_
      rintro r A' ⟨rfl, hA⟩
      have hA := hA.symm
      subst hA
      simp only [kE]
      simp only [zW, zX, zD, builtinA, isLeaf, const1, ustrA, simprocAttr, ti3, ti64, ti87, ca94, ca95, cf, Tryz.results56]
      refine callO_intro hpv ?_
      rintro r A' ⟨⟨n, rfl, hn⟩, hA⟩
      have hA := hA.symm
      subst hA
      by_cases hm : viK y ∈ ys.map viK
      · rw [if_pos hm] at hsn
        rw [decide_eq_true hm] at hn
        simp only [zW, zX, zD, builtinA, isLeaf, const1, ustrA, simprocAttr, ti3, ti64, ti87, ca94, ca95, cf, Tryz.results56, hn, Bool.not_true, hi1, LoopK_eq]
        refine ⟨⟨p + 1, j, B, by omega, rfl, rfl, hj, by rw [hg, hsn]⟩, ?_⟩
        simp only [intOf]; omega
      · rw [if_neg hm] at hsn
        rw [decide_eq_false hm] at hn
        have hrs : vRows us ++ [[.iface (viT y) (viX y)]] = vRows (us ++ [y]) := by simp [vRows, vRow]
        have hgX : ∀ Y, (B ++ Y).getD j .dead = .row 1 (vRows us) 0 := fun Y => by rw [Abs.getD_append_left hj]; exact hg
        have hsX : ∀ Y : List Box, (B ++ Y).set j .dead = B.set j .dead ++ Y := fun Y => by rw [List.set_append_left _ _ hj]
        have hjX : ∀ n, j < B.length + n := fun n => by omega
        simp only [zW, zX, zD, builtinA, isLeaf, const1, ustrA, simprocAttr, ti3, ti64, ti87, ca94, ca95, cf, Tryz.results56, hn, Bool.not_false, hg, hj, hgX, hsX, hjX, hrs, hi1, LoopK_eq]
        refine ⟨fun v hv => by rw [List.mem_singleton.1 hv], ⟨fun r hr => by rw [List.mem_singleton.1 hr]; rfl, by rw [vRows_length]; omega⟩, ⟨p + 1, B.length + 1, _, by omega, rfl, rfl, by simp, ?_⟩, ?_⟩
        · rw [Abs.getD_append_right (by simp), hsn]; simp
        · simp only [intOf]; omega
    · have d2 : decide ((p : Int) < (zs.length : Int)) = false := by simp; omega
      have e : p = zs.length := by omega
      subst e
      rw [List.take_length] at hg
      simp only [zW, zX, zD, builtinA, isLeaf, const1, ustrA, simprocAttr, ti3, ti64, ti87, ca94, ca95, cf, Tryz.results56, d2]
      exact ⟨B, j, rfl, rfl, hj, hg⟩

/-- what JoinSigs answers -/
def JnIs (a b : List SigI) (o : Option (List SigI)) : Prop :=
  (∃ ys zs c c' p p', a.length ≤ 8 ∧ b.length ≤ 8 ∧ ReadsTo a ys ∧ ReadsTo b zs ∧ ordB ys = true ∧ ordB zs = true ∧ MtIs ((jnK ys zs).map siOf) a c p ∧ MtIs ((jnK ys zs).map siOf) b c' p' ∧ o = if c = 0 ∧ c' = 0 then some ((jnK ys zs).map siOf) else none) ∨
  (sigB a = false ∨ sigB b = false) ∧ o = none
theorem jnIs_ex (a b : List SigI) : ∃ o, JnIs a b o := by
  cases ha : sigB a with
  | false => exact ⟨none, .inr ⟨.inl ha, rfl⟩⟩
  | true =>
    cases hb : sigB b with
    | false => exact ⟨none, .inr ⟨.inr hb, rfl⟩⟩
    | true =>
      obtain ⟨ys, h8, hr, ho⟩ := sigB_yes ha
      obtain ⟨zs, h8', hr', ho'⟩ := sigB_yes hb
      obtain ⟨c, p, h1⟩ := mtIs_ex ((jnK ys zs).map siOf) a
      obtain ⟨c', p', h2⟩ := mtIs_ex ((jnK ys zs).map siOf) b
      exact ⟨_, .inl ⟨ys, zs, c, c', p, p', h8, h8', hr, hr', ho, ho', h1, h2, rfl⟩⟩
theorem jnIs_one {a b : List SigI} {o o' : Option (List SigI)} (h : JnIs a b o) (h' : JnIs a b o') : o = o' := by
  have hv : ∀ {s : List SigI} {ys : List VI}, s.length ≤ 8 → ReadsTo s ys → ordB ys = true → sigB s = true := fun h8 hr ho => by rw [sigB_reads h8 hr]; exact ho
  rcases h with ⟨ys, zs, c, c', p, p', a1, a2, a3, a4, a5, a6, a7, a8, rfl⟩ | ⟨h, rfl⟩
  · rcases h' with ⟨us, ws, d, d', q, q', b1, b2, b3, b4, b5, b6, b7, b8, rfl⟩ | ⟨h, rfl⟩
    · cases readsTo_one a3 b3
      cases readsTo_one a4 b4
      rw [(mtIs_one a7 b7).1, (mtIs_one a8 b8).1]
    · rcases h with h | h
      · rw [hv a1 a3 a5] at h; cases h
      · rw [hv a2 a4 a6] at h; cases h
  · rcases h' with ⟨us, ws, d, d', q, q', b1, b2, b3, b4, b5, b6, b7, b8, rfl⟩ | ⟨h', rfl⟩
    · rcases h with h | h
      · rw [hv b1 b3 b5] at h; cases h
      · rw [hv b2 b4 b6] at h; cases h
    · rfl
theorem jn_ok {a b : List SigI} (ha : ∀ x ∈ a, x.Ok) (hb : ∀ x ∈ b, x.Ok) {ys zs : List VI} (h8 : a.length ≤ 8) (h8' : b.length ≤ 8) (hr : ReadsTo a ys) (hr' : ReadsTo b zs) : ((jnK ys zs).map siOf).length ≤ 16 ∧ ∀ x ∈ (jnK ys zs).map siOf, x.Ok ∧ sz x.typ ≤ 1048576 := by
  have key : ∀ {s : List SigI} {us : List VI}, (∀ x ∈ s, x.Ok) → ReadsTo s us → ∀ y ∈ us, (siOf y).Ok ∧ sz (siOf y).typ ≤ 1048576 := fun {s us} hs hr y hy => by
    obtain ⟨i, hi, rfl⟩ := List.mem_iff_getElem.1 hy
    have h1 := hr.2 i (by have := hr.1; omega)
    have e : us.getD i vi0 = us[i] := by simp [List.getD, hi]
    rw [e] at h1
    refine siOf_ok (mean_ok h1.1 h1.2) ?_
    rw [← siOf_name, ← itemOf_si h1.2]
    exact (hs _ (si_mem (by have := hr.1; omega))).1
  refine ⟨by rw [List.length_map]; have := jnK_len ys zs; have := hr.1; have := hr'.1; omega, fun x hx => ?_⟩
  obtain ⟨y, hy, rfl⟩ := List.mem_map.1 hx
  rw [jnK] at hy
  rcases List.mem_append.1 hy with h | h
  · exact key ha hr y h
  · exact key hb hr' y (List.mem_filter.1 h).1

set_option maxRecDepth 100000 in
set_option maxHeartbeats 4000000 in
theorem impl_JoinSigs (a b : List SigI) (ha : a.length ≤ 1048576) (hoa : ∀ x ∈ a, x.Ok ∧ sz x.typ ≤ 1048576) (hb : b.length ≤ 1048576) (hob : ∀ x ∈ b, x.Ok ∧ sz x.typ ≤ 1048576) (A : List Box) :
    ACalls Tryz.prog 25 [.slice (sEs a), .slice (sEs b)] A (fun r A' => ∃ o, JnIs a b o ∧ SgOut A (o.getD []) o.isSome r A') := by
  refine acalls_enterK (cf := cf 42 [0, 1, 4, 5, 6, 7, 8, 9, 10, 26, 40]) foll Tryz.func25 Tryz.ntmps25 (by simp [cf]) ?_
  simp only [Tryz.f25, EnterK_some, zW, zX, zD, builtinA, isLeaf, const1, ustrA, simprocAttr, ti3, ca18, ca55, ca56, ca57, cf, Tryz.results25]
  refine callO_intro (impl_readSigK a ha hoa _) ?_
  rintro r A1 ⟨B, rfl, h1⟩
  obtain ⟨q1, v1, e1, hq1⟩ : ∃ (q : Bool) (v : AV), r = .tuple [v, .bool q] ∧ (q = true → ∃ ys j, a.length ≤ 8 ∧ ReadsTo a ys ∧ ordB ys = true ∧ v = .own (A.length + j) ∧ j < B.length ∧ B.getD j .dead = .row 1 (vRows ys) 0) ∧ (q = false → sigB a = false) := by
    rcases h1 with ⟨ys, j, h8, hr, rfl, hj, hg⟩ | ⟨hbad, rfl⟩
    · exact ⟨_, _, rfl, fun h => ⟨ys, j, h8, hr, h, rfl, hj, hg⟩, fun h => by rw [sigB_reads h8 hr]; exact h⟩
    · exact ⟨_, _, rfl, (fun h => by cases h), fun _ => sigB_bad hbad⟩
  subst e1
  clear h1
  simp only [zW, zX, zD, builtinA, isLeaf, const1, ustrA, simprocAttr, ti3, ca18, ca55, ca56, ca57, cf, Tryz.results25]
  refine callO_intro (impl_readSigK b hb hob _) ?_
  rintro r A1 ⟨C, rfl, h1⟩
  obtain ⟨q2, v2, e2, hq2⟩ : ∃ (q : Bool) (v : AV), r = .tuple [v, .bool q] ∧ (q = true → ∃ ys j, b.length ≤ 8 ∧ ReadsTo b ys ∧ ordB ys = true ∧ v = .own ((A ++ B).length + j) ∧ j < C.length ∧ C.getD j .dead = .row 1 (vRows ys) 0) ∧ (q = false → sigB b = false) := by
    rcases h1 with ⟨ys, j, h8, hr, rfl, hj, hg⟩ | ⟨hbad, rfl⟩
    · exact ⟨_, _, rfl, fun h => ⟨ys, j, h8, hr, h, rfl, hj, hg⟩, fun h => by rw [sigB_reads h8 hr]; exact h⟩
    · exact ⟨_, _, rfl, (fun h => by cases h), fun _ => sigB_bad hbad⟩
  subst e2
  clear h1
  cases q1 with
  | false =>
    simp only [zW, zX, zD, builtinA, isLeaf, const1, ustrA, simprocAttr, ti3, ca18, ca55, ca56, ca57, cf, Tryz.results25]
    exact ⟨none, .inr ⟨.inl (hq1.2 rfl), rfl⟩, sg_none A (B ++ C)⟩
  | true =>
    cases q2 with
    | false =>
      simp only [zW, zX, zD, builtinA, isLeaf, const1, ustrA, simprocAttr, ti3, ca18, ca55, ca56, ca57, cf, Tryz.results25]
      exact ⟨none, .inr ⟨.inr (hq2.2 rfl), rfl⟩, sg_none A (B ++ C)⟩
    | true =>
      obtain ⟨ys, j, h8, hr, hord, rfl, hj, hg⟩ := hq1.1 rfl
      obtain ⟨zs, k, h8', hr', hord', rfl, hk, hgk⟩ := hq2.1 rfl
      have g1 : (A ++ (B ++ C)).getD (A.length + j) .dead = .row 1 (vRows ys) 0 := by
        rw [Abs.getD_append_right (by omega), show A.length + j - A.length = j by omega, Abs.getD_append_left hj]; exact hg
      have g2 : (A ++ (B ++ C)).getD (A.length + B.length + k) .dead = .row 1 (vRows zs) 0 := by
        rw [Abs.getD_append_right (by omega), show A.length + B.length + k - A.length = B.length + k by omega, Abs.getD_append_right (by omega), show B.length + k - B.length = k by omega]; exact hgk
      have hys := hr.1
      have hzs := hr'.1
      obtain ⟨hxl, hxo⟩ := jn_ok (fun x hx => (hoa x hx).1) (fun x hx => (hob x hx).1) h8 h8' hr hr'
      have hjl := jnK_len ys zs
      obtain ⟨c, p, hM⟩ := mtIs_ex ((jnK ys zs).map siOf) a
      obtain ⟨c', p', hM'⟩ := mtIs_ex ((jnK ys zs).map siOf) b
      have hm1 := fun A => impl_MatchSigF hM (by omega) hxo ha hoa A
      have hm2 := fun A => impl_MatchSigF hM' (by omega) hxo hb hob A
      have hJ : JnIs a b (if c = 0 ∧ c' = 0 then some ((jnK ys zs).map siOf) else none) := .inl ⟨ys, zs, c, c', p, p', h8, h8', hr, hr', hord, hord', hM, hM', rfl⟩
      simp only [zW, zX, zD, builtinA, isLeaf, const1, ustrA, simprocAttr, ti3, ca18, ca55, ca56, ca57, cf, Tryz.results25]
      refine callO_intro (impl_merge ys zs (A.length + j) (A.length + B.length + k) (A ++ (B ++ C)) g1 (by simp; omega) (by omega) g2 (by simp; omega) (by omega)) ?_
      rintro r A' ⟨D, m, rfl, rfl, hm, hgm⟩
      simp only [zW, zX, zD, builtinA, isLeaf, const1, ustrA, simprocAttr, ti3, ca18, ca55, ca56, ca57, cf, Tryz.results25]
      have hfz : frzs [.own ((A ++ (B ++ C)).length + m)] ((A ++ (B ++ C)) ++ D) = some ([.slice (vRows (jnK ys zs))], (A ++ (B ++ C)) ++ D.set m (.row 1 (vRows (jnK ys zs)) (vRows (jnK ys zs)).length)) := by
        have h1 : ((A ++ (B ++ C)) ++ D).getD ((A ++ (B ++ C)).length + m) .dead = .row 1 (vRows (jnK ys zs)) 0 := by
          rw [Abs.getD_append_right (by omega), Nat.add_sub_cancel_left]; exact hgm
        have h2 : ∀ X : Box, ((A ++ (B ++ C)) ++ D).set ((A ++ (B ++ C)).length + m) X = (A ++ (B ++ C)) ++ D.set m X := fun X => by rw [List.set_append_right _ _ (by omega), Nat.add_sub_cancel_left]
        simp only [frzs, frzC, frz1, h1, h2]
      simp only [List.length_append, List.append_assoc] at hfz
      refine callK_intro hfz (impl_plainSig (jnK ys zs) (by omega) _) ?_ rfl
      rintro r A' ⟨i, rfl, hle, hf, rows, S, hgi, hO, hN, hge⟩
      simp only [List.length_append, List.length_set] at hle hge
      have hfA : ∀ x, x < A.length → A'.getD x .dead = A.getD x .dead := fun x hx => by rw [hf x (by simp; omega), Abs.getD_append_left hx]
      clear hf hfz
      simp only [zW, zX, zD, builtinA, isLeaf, const1, ustrA, simprocAttr, ti3, ca18, ca55, ca56, ca57, cf, Tryz.results25]
      refine callO_intro (borrow0 (.cons (OwnG.viewG hgi hO) (.cons (.leaf _ rfl) .nil)) rfl hm1) ?_
      rintro r A2 ⟨rfl, hA⟩
      have hA := hA.symm
      subst hA
      by_cases hc : c = 0
      · simp only [zW, zX, zD, builtinA, isLeaf, const1, ustrA, simprocAttr, ti3, ca18, ca55, ca56, ca57, cf, Tryz.results25, decide_eq_true hc, Bool.not_true]
        refine callO_intro (borrow0 (.cons (OwnG.viewG hgi hO) (.cons (.leaf _ rfl) .nil)) rfl hm2) ?_
        rintro r A2 ⟨rfl, hA⟩
        have hA := hA.symm
        subst hA
        by_cases hc' : c' = 0
        · rw [if_pos ⟨hc, hc'⟩] at hJ
          simp only [zW, zX, zD, builtinA, isLeaf, const1, ustrA, simprocAttr, ti3, ca18, ca55, ca56, ca57, cf, Tryz.results25, decide_eq_true hc', Bool.not_true]
          exact ⟨_, hJ, _, i :: S, rfl, .inr ⟨i, rows, S, rfl, rfl, hgi, hO⟩, hN, fun x hx => by have := hge x hx; omega, by omega, hfA⟩
        · rw [if_neg (fun h => hc' h.2)] at hJ
          simp only [zW, zX, zD, builtinA, isLeaf, const1, ustrA, simprocAttr, ti3, ca18, ca55, ca56, ca57, cf, Tryz.results25, decide_eq_false hc', Bool.not_false]
          exact ⟨_, hJ, _, [], rfl, .inl ⟨rfl, rfl, rfl⟩, by simp, by simp, by omega, hfA⟩
      · rw [if_neg (fun h => hc h.1)] at hJ
        simp only [zW, zX, zD, builtinA, isLeaf, const1, ustrA, simprocAttr, ti3, ca18, ca55, ca56, ca57, cf, Tryz.results25, decide_eq_false hc, Bool.not_false]
        exact ⟨_, hJ, _, [], rfl, .inl ⟨rfl, rfl, rfl⟩, by simp, by simp, by omega, hfA⟩
end Go.Proofs.YtkajklfohjcofaaGreatDoor

/- The model's JoinSigs: what two signatures offer together. -/
set_option linter.unusedVariables false
set_option linter.unusedSimpArgs false
namespace Go.Proofs.YtkajklfohjcofaaGreatDoor
open Go.Abs

theorem viK_si (y q : VI) : decide (viK y = viK q) = (decide ((siOf y).name = (siOf q).name) && decide (isTB (siOf y) = isTB (siOf q))) := by
  rw [Bool.eq_iff_iff, Bool.and_eq_true, decide_eq_true_iff, decide_eq_true_iff, decide_eq_true_iff]
  cases y <;> cases q <;> simp [viK, siOf, isTB]
theorem rd_map {s : List SigI} {ys : List VI} (h : ReadsTo s ys) : s = ys.map siOf := by
  apply List.ext_getElem (by simp [h.1])
  intro i h1 h2
  have e := itemOf_si (h.2 i h1).2
  have h3 : i < ys.length := by have := h.1; omega
  simpa [List.getD, h1, h3] using e

theorem fz1 {A B : List Box} {n j sz s : Nat} {r : List (List AV)} (hn : A.length = n) (hj : j < B.length) (h : B.getD j .dead = .row sz r s) : frzs [.own (n + j)] (A ++ B) = some ([.slice r], A ++ B.set j (.row sz r r.length)) := by
  subst hn
  have h1 : (A ++ B).getD (A.length + j) .dead = .row sz r s := by rw [Abs.getD_append_right (by omega), Nat.add_sub_cancel_left]; exact h
  have h2 : ∀ X : Box, (A ++ B).set (A.length + j) X = A ++ B.set j X := fun X => by rw [List.set_append_right _ _ (by omega), Nat.add_sub_cancel_left]
  simp only [frzs, frzC, frz1, h1, h2]
theorem fz2 {A B : List Box} {n j sz s : Nat} {r X : List (List AV)} (hn : A.length = n) (hj : j < B.length) (h : B.getD j .dead = .row sz r s) : frzs [.own (n + j), .slice X] (A ++ B) = some ([.slice r, .slice X], A ++ B.set j (.row sz r r.length)) := by
  subst hn
  have h1 : (A ++ B).getD (A.length + j) .dead = .row sz r s := by rw [Abs.getD_append_right (by omega), Nat.add_sub_cancel_left]; exact h
  have h2 : ∀ X : Box, (A ++ B).set (A.length + j) X = A ++ B.set j X := fun X => by rw [List.set_append_right _ _ (by omega), Nat.add_sub_cancel_left]
  simp only [frzs, frzC, frz1, h1, h2]

set_option maxRecDepth 100000 in
set_option maxHeartbeats 4000000 in
theorem spec_l3Place (ys : List VI) (hl : ys.length ≤ 1000) (q : VI) (A : List Box) :
    ACalls Tryz.prog 54 [.slice (sEs (ys.map siOf)), .agg (sE (siOf q))] A (fun r A' => (∃ n : Int, r = .int .i64 n ∧ decide (n < 0) = !decide (viK q ∈ ys.map viK)) ∧ A' = A) := by
  have hlen : (sEs (ys.map siOf)).length = ys.length := by simp [sEs_length]
  have hq := fun A => spec_l2IsType (siOf q) A
  generalize hqq : siOf q = qq at *
  obtain ⟨kq, nq, tq⟩ := qq
  simp only [sE] at hq ⊢
  refine acalls_enter (cf := cf 31 [0, 1, 3, 4, 5, 9, 29]) foll Tryz.func54 Tryz.ntmps54 (by simp [cf]) ?_
  simp only [Tryz.f54, EnterK_some, zW, zX, zD, builtinA, isLeaf, const1, ustrA, simprocAttr, ti3, ti4, ti9, ti25, ti49, ca90, cf, Tryz.results54]
  refine aloop_intro [0, 3, 5] (fun e A' => ∃ i, i ≤ ys.length ∧ (∀ k, k < i → viK (ys.getD k vi0) ≠ viK q) ∧ e = [(0, .slice (sEs (ys.map siOf))), (3, .ptr A.length 0), (5, .int .i64 i)] ∧ A' = A ++ [.cells (.int .i64 kq :: .str nq :: enc tq)]) (fun e _ => ys.length - (intOf (Abs.look 5 e)).toNat) ?_ ?_
  · simp only [zW, zX, zD, builtinA, isLeaf, const1, ustrA, simprocAttr, ti3, ti4, ti9, ti25, ti49, ca90, cf, Tryz.results54]
    exact ⟨0, by omega, fun k hk => by omega, rfl⟩
  · rintro e A' ⟨i, hi, hk, rfl, rfl⟩
    simp only [zW, zX, zD, builtinA, isLeaf, const1, ustrA, simprocAttr, ti3, ti4, ti9, ti25, ti49, ca90, cf, Tryz.results54, hlen]
    refine condK_intro (fun h2 => ?_) (fun h2 => ?_)
    · have hi2 : i < ys.length := by simpa using h2
      have hi1 : IntKind.i64.wrap ((i : Int) + 1) = ((i + 1 : Nat) : Int) := by rw [wrap64 (by omega) (by omega)]; rfl
      have pi : (0 : Int) ≤ (i : Int) ∧ (i : Int) < (ys.length : Int) := ⟨by omega, by omega⟩
      have he := siOf_getD hi2
      have hvk := viK_si (ys.getD i vi0) q
      rw [hqq] at hvk
      have hty := fun A => spec_l2IsType (siOf (ys.getD i vi0)) A
      have hmem : viK (ys.getD i vi0) ∈ ys.map viK := List.mem_map.2 ⟨_, by simp [List.getD, hi2], rfl⟩
      generalize hyy : ys.getD i vi0 = y at *
      generalize siOf y = x at *
      obtain ⟨k, n, t⟩ := x
      simp only [sE] at he hty
      simp only [zW, zX, zD, builtinA, isLeaf, const1, ustrA, simprocAttr, ti3, ti4, ti9, ti25, ti49, ca90, cf, Tryz.results54, he, hlen, enc_length]
      refine .inl ⟨by kernel_rfl, by kernel_rfl, ?_⟩
      by_cases hn : n = nq
      · simp only [zW, zX, zD, builtinA, isLeaf, const1, ustrA, simprocAttr, ti3, ti4, ti9, ti25, ti49, ca90, cf, Tryz.results54, decide_eq_true hn, he, hlen, enc_length, enc_take, sub_drop, frzL_enc, sub_closed, Option.map_some]
        refine ⟨pi, pi, ?_⟩
        refine callD_intro (by simp only [zW, zX, zD, builtinA, isLeaf, const1, ustrA, simprocAttr, enc_length, enc_take, sub_drop, frzL_enc, sub_closed, Option.map_some] <;> rfl) (hty _) ?_ rfl
        simp only [zW, zX, zD, builtinA, isLeaf, const1, ustrA, simprocAttr, ti3, ti4, ti9, ti25, ti49, ca90, cf, Tryz.results54, enc_length, enc_take, sub_drop, frzL_enc, sub_closed, Option.map_some]
        refine callD_intro (by simp only [zW, zX, zD, builtinA, isLeaf, const1, ustrA, simprocAttr, enc_length, enc_take, sub_drop, frzL_enc, sub_closed, Option.map_some] <;> rfl) (hq _) ?_ rfl
        simp only [decide_eq_true hn, Bool.true_and] at hvk
        by_cases ht : isTB ⟨k, n, t⟩ = isTB ⟨kq, nq, tq⟩
        · rw [decide_eq_true ht] at hvk
          have hvq : viK y = viK q := by simpa using hvk
          have e : (isTB ⟨k, n, t⟩ == isTB ⟨kq, nq, tq⟩) = true := by simp [ht]
          simp only [zW, zX, zD, builtinA, isLeaf, const1, ustrA, simprocAttr, ti3, ti4, ti9, ti25, ti49, ca90, cf, Tryz.results54, e]
          rw [← hvq, decide_eq_true hmem]
          exact ⟨_, rfl, decide_eq_false (by omega)⟩
        · rw [decide_eq_false ht] at hvk
          have hvq : viK y ≠ viK q := by simpa using hvk
          have e : (isTB ⟨k, n, t⟩ == isTB ⟨kq, nq, tq⟩) = false := by simp [ht]
          simp only [zW, zX, zD, builtinA, isLeaf, const1, ustrA, simprocAttr, ti3, ti4, ti9, ti25, ti49, ca90, cf, Tryz.results54, e, hi1, LoopK_eq]
          refine ⟨⟨i + 1, by omega, fun k' hk' => ?_, rfl⟩, ?_⟩
          · rcases Nat.lt_succ_iff_lt_or_eq.mp hk' with h1 | rfl
            · exact hk k' h1
            · rw [hyy]; exact hvq
          · simp only [intOf]; omega
      · simp only [decide_eq_false hn, Bool.false_and] at hvk
        have hvq : viK y ≠ viK q := by simpa using hvk
        simp only [zW, zX, zD, builtinA, isLeaf, const1, ustrA, simprocAttr, ti3, ti4, ti9, ti25, ti49, ca90, cf, Tryz.results54, decide_eq_false hn, hi1, LoopK_eq, enc_length]
        refine ⟨pi, ⟨i + 1, by omega, fun k' hk' => ?_, rfl⟩, ?_⟩
        · rcases Nat.lt_succ_iff_lt_or_eq.mp hk' with h1 | rfl
          · exact hk k' h1
          · rw [hyy]; exact hvq
        · simp only [intOf]; omega
    · have hi2 : i = ys.length := by simp at h2; omega
      subst hi2
      have hno : viK q ∉ ys.map viK := fun h => by
        obtain ⟨y, hy, hk'⟩ := List.mem_map.1 h
        obtain ⟨j, hj, rfl⟩ := List.mem_iff_getElem.1 hy
        exact hk j hj (by simpa [List.getD, hj] using hk')
      rw [decide_eq_false hno]
      simp only [zW, zX, zD, builtinA, isLeaf, const1, ustrA, simprocAttr, ti3, ti4, ti9, ti25, ti49, ca90, cf, Tryz.results54]
      exact ⟨_, rfl, by decide⟩

set_option maxRecDepth 100000 in
set_option maxHeartbeats 4000000 in
theorem spec_JoinSigs (a b : List SigI) (ha : a.length ≤ 1048576) (hoa : ∀ x ∈ a, x.Ok ∧ sz x.typ ≤ 1048576) (hb : b.length ≤ 1048576) (hob : ∀ x ∈ b, x.Ok ∧ sz x.typ ≤ 1048576) {o : Option (List SigI)} (hJ : JnIs a b o) (A : List Box) :
    ACalls Tryz.prog 24 [.slice (sEs a), .slice (sEs b)] A (fun r A' => r = .tuple [.slice (sEs (o.getD [])), .bool o.isSome] ∧ A' = A) := by
  rcases hJ with ⟨ys, zs, c, c', p, p', h8, h8', hr, hr', hord, hord', hM, hM', rfl⟩ | ⟨hn, rfl⟩
  · have hsa : sigB a = true := by rw [sigB_reads h8 hr]; exact hord
    have hsb : sigB b = true := by rw [sigB_reads h8' hr']; exact hord'
    have hSa := fun A => spec_SigValid a ha hoa A
    have hSb := fun A => spec_SigValid b hb hob A
    rw [hsa] at hSa
    rw [hsb] at hSb
    obtain ⟨hxl, hxo⟩ := jn_ok (fun x hx => (hoa x hx).1) (fun x hx => (hob x hx).1) h8 h8' hr hr'
    have hjl := jnK_len ys zs
    have hm1 := fun A => spec_MatchSigF hM (by omega) hxo ha hoa A
    have hm2 := fun A => spec_MatchSigF hM' (by omega) hxo hb hob A
    have hyl := hr.1
    have hzl := hr'.1
    have hea := rd_map hr
    have heb := rd_map hr'
    refine acalls_enter (cf := cf 53 [0, 1, 4, 5, 6, 7, 15, 22, 31, 50]) foll Tryz.func24 Tryz.ntmps24 (by simp [cf]) ?_
    simp only [Tryz.f24, EnterK_some, zW, zX, zD, builtinA, isLeaf, const1, ustrA, simprocAttr, ti3, ti25, ti49, ca16, ca52, ca53, ca54, cf, Tryz.results24]
    refine callO_intro (hSa _) ?_
    rintro r A' ⟨rfl, hA⟩
    have hA := hA.symm
    subst hA
    simp only [zW, zX, zD, builtinA, isLeaf, const1, ustrA, simprocAttr, ti3, ti25, ti49, ca16, ca52, ca53, ca54, cf, Tryz.results24]
    refine callO_intro (hSb _) ?_
    rintro r A' ⟨rfl, hA⟩
    have hA := hA.symm
    subst hA
    simp only [zW, zX, zD, builtinA, isLeaf, const1, ustrA, simprocAttr, ti3, ti25, ti49, ca16, ca52, ca53, ca54, cf, Tryz.results24]
    refine callO_intro (spec_l2Copy a ha (fun x hx => (hoa x hx).2) _) ?_
    rintro r A' ⟨B, j, rfl, rfl, hj, hg⟩
    have hlen := sEs_length b
    simp only [zW, zX, zD, builtinA, isLeaf, const1, ustrA, simprocAttr, ti3, ti25, ti49, ca16, ca52, ca53, ca54, cf, Tryz.results24]
    refine aloop_intro [0, 1, 6, 7] (fun e A' => ∃ i j B, i ≤ b.length ∧ e = [(0, .slice (sEs a)), (1, .slice (sEs b)), (6, .own (A.length + j)), (7, .int .i64 i)] ∧ A' = A ++ B ∧ j < B.length ∧ B.getD j .dead = .row 6 (sEs ((jnK ys (zs.take i)).map siOf)) 0) (fun e _ => b.length - (intOf (Abs.look 7 e)).toNat) ?_ ?_
    · simp only [zW, zX, zD, builtinA, isLeaf, const1, ustrA, simprocAttr, ti3, ti25, ti49, ca16, ca52, ca53, ca54, cf, Tryz.results24]
      exact ⟨0, j, B, by omega, rfl, rfl, hj, by rw [hg, hea]; simp [jnK]⟩
    · clear hg hj
      rintro e A' ⟨i, j, B, hi, rfl, rfl, hj, hg⟩
      simp only [zW, zX, zD, builtinA, isLeaf, const1, ustrA, simprocAttr, ti3, ti25, ti49, ca16, ca52, ca53, ca54, cf, Tryz.results24, hlen]
      refine condK_intro (fun h2 => ?_) (fun h2 => ?_)
      · have hi2 : i < b.length := by simpa using h2
        have hi1 : IntKind.i64.wrap ((i : Int) + 1) = ((i + 1 : Nat) : Int) := by rw [wrap64 (by omega) (by omega)]; rfl
        have pi : (0 : Int) ≤ (i : Int) ∧ (i : Int) < (b.length : Int) := ⟨by omega, by omega⟩
        have he := sEs_getD hi2
        rw [itemOf_si (hr'.2 i hi2).2] at he
        have hpl := fun A => spec_l3Place ys (by omega) (zs.getD i vi0) A
        rw [← hea] at hpl
        have hsn := jnK_snoc ys (show i < zs.length by omega)
        have hjl := jnK_len ys (zs.take i)
        have hjl2 : (zs.take i).length ≤ 8 := by simp; omega
        generalize zs.getD i vi0 = y at *
        generalize jnK ys (zs.take i) = us at *
        have hsl := sE_leaf (siOf y)
        have hrs : sEs (us.map siOf) ++ [sE (siOf y)] = sEs ((us ++ [y]).map siOf) := by simp [sEs]
        generalize siOf y = x at *
        obtain ⟨k, n, t⟩ := x
        simp only [sE] at he hpl hrs hsl
        simp only [zW, zX, zD, builtinA, isLeaf, const1, ustrA, simprocAttr, ti3, ti25, ti49, ca16, ca52, ca53, ca54, cf, Tryz.results24, he, hlen, enc_length, enc_take]
        refine ⟨pi, ?_⟩
        refine callO_intro (hpl _) ?_
        rintro r A' ⟨⟨v, rfl, hv⟩, hA⟩
        have hA := hA.symm
        subst hA
        by_cases hm : viK y ∈ ys.map viK
        · rw [if_pos hm] at hsn
          rw [decide_eq_true hm] at hv
          simp only [zW, zX, zD, builtinA, isLeaf, const1, ustrA, simprocAttr, ti3, ti25, ti49, ca16, ca52, ca53, ca54, cf, Tryz.results24, hv, Bool.not_true, hi1, LoopK_eq]
          refine ⟨⟨i + 1, j, B, by omega, rfl, rfl, hj, by rw [hg, hsn]⟩, ?_⟩
          simp only [intOf]; omega
        · rw [if_neg hm] at hsn
          rw [decide_eq_false hm] at hv
          have hgX : ∀ Y, (B ++ Y).getD j .dead = .row 6 (sEs (us.map siOf)) 0 := fun Y => by rw [Abs.getD_append_left hj]; exact hg
          have hsX : ∀ Y : List Box, (B ++ Y).set j .dead = B.set j .dead ++ Y := fun Y => by rw [List.set_append_left _ _ hj]
          have hjX : ∀ n, j < B.length + n := fun n => by omega
          simp only [zW, zX, zD, builtinA, isLeaf, const1, ustrA, simprocAttr, ti3, ti25, ti49, ca16, ca52, ca53, ca54, cf, Tryz.results24, hv, Bool.not_false, he, hlen, hg, hj, hgX, hsX, hjX, hrs, hi1, LoopK_eq, sEs_length, enc_length, enc_take, sub_drop, frzL_enc, sub_closed, Option.map_some]
          refine ⟨pi, fun v hv => hsl v hv, ⟨fun r hr => by rw [List.mem_singleton.1 hr]; simp [enc_length], by rw [List.length_map]; omega⟩, ⟨i + 1, B.length + 1, _, by omega, rfl, rfl, by simp, ?_⟩, ?_⟩
          · rw [Abs.getD_append_right (by simp), hsn]; simp
          · simp only [intOf]; omega
      · have hi2 : i = b.length := by simp at h2; omega
        subst hi2
        rw [← hzl, List.take_length] at hg
        have hml : ((jnK ys zs).map siOf).length ≤ 1048576 := by omega
        have hnl := sEs_length ((jnK ys zs).map siOf)
        generalize (jnK ys zs).map siOf = xs at *
        have hfz := fz1 (A := A) rfl hj hg
        simp only [zW, zX, zD, builtinA, isLeaf, const1, ustrA, simprocAttr, ti3, ti25, ti49, ca16, ca52, ca53, ca54, cf, Tryz.results24]
        refine callK_intro hfz (spec_l2Copy xs hml (fun x hx => (hxo x hx).2) _) ?_ rfl
        rintro r A' ⟨C, k, rfl, rfl, hk, hgk⟩
        have hgk1 : (B.set j (.row 6 (sEs xs) (sEs xs).length) ++ C).getD (B.length + k) .dead = .row 6 (sEs xs) 0 := by rw [Abs.getD_append_right (by simp), List.length_set, show B.length + k - B.length = k by omega]; exact hgk
        have hkl : B.length + k < (B.set j (.row 6 (sEs xs) (sEs xs).length) ++ C).length := by simp; omega
        rw [List.append_assoc]
        simp only [List.length_append, List.length_set, Nat.add_assoc]
        generalize B.set j (.row 6 (sEs xs) (sEs xs).length) ++ C = D at *
        have hfz2 := fz2 (A := A) (X := sEs a) rfl hkl hgk1
        simp only [zW, zX, zD, builtinA, isLeaf, const1, ustrA, simprocAttr, ti3, ti25, ti49, ca16, ca52, ca53, ca54, cf, Tryz.results24]
        refine callK_intro hfz2 (hm1 _) ?_ rfl
        rintro r A' ⟨rfl, rfl⟩
        by_cases hc : c = 0
        · have hfz3 := fz2 (A := A) (B := D.set (B.length + k) (.row 6 (sEs xs) (sEs xs).length)) (X := sEs b) rfl (by simpa using hkl) (getD_set_self hkl)
          simp only [zW, zX, zD, builtinA, isLeaf, const1, ustrA, simprocAttr, ti3, ti25, ti49, ca16, ca52, ca53, ca54, cf, Tryz.results24, decide_eq_true hc, Bool.not_true]
          refine callK_intro hfz3 (hm2 _) ?_ rfl
          rintro r A' ⟨rfl, rfl⟩
          by_cases hc' : c' = 0
          · rw [if_pos ⟨hc, hc'⟩]
            have hg4 : (D.set (B.length + k) (Box.row 6 (sEs xs) (sEs xs).length)).getD (B.length + k) .dead = .row 6 (sEs xs) (sEs xs).length := getD_set_self hkl
            simp only [zW, zX, zD, builtinA, isLeaf, const1, ustrA, simprocAttr, ti3, ti25, ti49, ca16, ca52, ca53, ca54, cf, Tryz.results24, decide_eq_true hc', Bool.not_true, hg4]
          · rw [if_neg (fun h => hc' h.2)]
            simp only [zW, zX, zD, builtinA, isLeaf, const1, ustrA, simprocAttr, ti3, ti25, ti49, ca16, ca52, ca53, ca54, cf, Tryz.results24, decide_eq_false hc', Bool.not_false]
            rfl
        · rw [if_neg (fun h => hc h.1)]
          simp only [zW, zX, zD, builtinA, isLeaf, const1, ustrA, simprocAttr, ti3, ti25, ti49, ca16, ca52, ca53, ca54, cf, Tryz.results24, decide_eq_false hc, Bool.not_false]
          rfl
  · cases hsa : sigB a with
    | false =>
      have hSa := fun A => spec_SigValid a ha hoa A
      rw [hsa] at hSa
      refine acalls_enter (cf := cf 53 [0, 1, 4, 5, 6, 7, 15, 22, 31, 50]) foll Tryz.func24 Tryz.ntmps24 (by simp [cf]) ?_
      simp only [Tryz.f24, EnterK_some, zW, zX, zD, builtinA, isLeaf, const1, ustrA, simprocAttr, ti3, ti25, ti49, ca16, ca52, ca53, ca54, cf, Tryz.results24]
      refine callO_intro (hSa _) ?_
      rintro r A' ⟨rfl, hA⟩
      have hA := hA.symm
      subst hA
      simp only [zW, zX, zD, builtinA, isLeaf, const1, ustrA, simprocAttr, ti3, ti25, ti49, ca16, ca52, ca53, ca54, cf, Tryz.results24]
      rfl
    | true =>
      have hsb : sigB b = false := by
        rcases hn with h | h
        · rw [h] at hsa; cases hsa
        · exact h
      have hSa := fun A => spec_SigValid a ha hoa A
      have hSb := fun A => spec_SigValid b hb hob A
      rw [hsa] at hSa
      rw [hsb] at hSb
      refine acalls_enter (cf := cf 53 [0, 1, 4, 5, 6, 7, 15, 22, 31, 50]) foll Tryz.func24 Tryz.ntmps24 (by simp [cf]) ?_
      simp only [Tryz.f24, EnterK_some, zW, zX, zD, builtinA, isLeaf, const1, ustrA, simprocAttr, ti3, ti25, ti49, ca16, ca52, ca53, ca54, cf, Tryz.results24]
      refine callO_intro (hSa _) ?_
      rintro r A' ⟨rfl, hA⟩
      have hA := hA.symm
      subst hA
      simp only [zW, zX, zD, builtinA, isLeaf, const1, ustrA, simprocAttr, ti3, ti25, ti49, ca16, ca52, ca53, ca54, cf, Tryz.results24]
      refine callO_intro (hSb _) ?_
      rintro r A' ⟨rfl, hA⟩
      have hA := hA.symm
      subst hA
      simp only [zW, zX, zD, builtinA, isLeaf, const1, ustrA, simprocAttr, ti3, ti25, ti49, ca16, ca52, ca53, ca54, cf, Tryz.results24]
      rfl
end Go.Proofs.YtkajklfohjcofaaGreatDoor

/- From a law's argument of the recursive type to a tree. -/
set_option linter.unusedVariables false
set_option linter.unusedSimpArgs false
namespace Go.Proofs.YtkajklfohjcofaaGreatDoor
open Go.Abs Go.RowKit Go.ChangeShapes Go.WideShapes Go.ChangeAt Go.ChangeMaps

theorem cells_int {P : Program} {t : TypeId} {k : IntKind} {cz : List AV} (hu : P.underlying t = some (.int k)) (h : Cells P t cz) : ∃ n, cz = [.int k n] := by
  cases h with
  | int h1 h2 => rw [hu] at h1; injection h1 with h1; injection h1 with h1; subst h1; exact ⟨_, rfl⟩
  | bool h1 => rw [hu] at h1; injection h1 with h1; cases h1
  | str h1 => rw [hu] at h1; injection h1 with h1; cases h1
  | slice h1 => rw [hu] at h1; injection h1 with h1; cases h1
  | struct h1 => rw [hu] at h1; injection h1 with h1; cases h1
theorem cells_str {P : Program} {t : TypeId} {cz : List AV} (hu : P.underlying t = some .string) (h : Cells P t cz) : ∃ s, cz = [.str s] ∧ s.length ≤ maxLen := by
  cases h with
  | int h1 h2 => rw [hu] at h1; injection h1 with h1; cases h1
  | bool h1 => rw [hu] at h1; injection h1 with h1; cases h1
  | str h1 h2 => exact ⟨_, rfl, h2⟩
  | slice h1 => rw [hu] at h1; injection h1 with h1; cases h1
  | struct h1 => rw [hu] at h1; injection h1 with h1; cases h1

theorem list_enc {α : Type} {f : α → List AV} {Q : α → Prop} : ∀ {rows : List (List AV)}, (∀ r ∈ rows, ∃ x, r = f x ∧ Q x) → ∃ l : List α, rows = l.map f ∧ l.length = rows.length ∧ ∀ x ∈ l, Q x
  | [], _ => ⟨[], rfl, rfl, by simp⟩
  | r :: rows, h => by
    obtain ⟨x, hx, hq⟩ := h r (by simp)
    obtain ⟨l, h1, h2, h3⟩ := list_enc (rows := rows) fun r hr => h r (by simp [hr])
    exact ⟨x :: l, by simp [hx, h1], by simp [h2], by simpa using ⟨hq, h3⟩⟩

theorem four {α : Type} {l : List α} (h : l.length = 4) : ∃ a b c d, l = [a, b, c, d] := by
  match l, h with
  | [a, b, c, d], _ => exact ⟨a, b, c, d, rfl⟩

theorem c3 : Tryz.prog.cellsOf 3 = 1 := by kernel_rfl
theorem c9 : Tryz.prog.cellsOf 9 = 1 := by kernel_rfl
theorem cS : Tryz.prog.cellsOf 55 = 1 := by kernel_rfl
theorem cT : Tryz.prog.cellsOf 57 = 4 := by kernel_rfl

theorem ty_of {t : TypeId} {cz : List AV} (h : Cells Tryz.prog t cz) :
    (t = 57 → ∃ τ, cz = encA τ ∧ τ.Ok) ∧ (t = 55 → ∃ ks, cz = [.aslice (encAs ks)] ∧ ks.length < 2 ^ 63 ∧ ∀ k ∈ ks, k.Ok) := by
  induction h with
  | int h1 h2 => exact ⟨fun e => (by subst e; rw [Tryz.underlying57] at h1; injection h1 with h1; cases h1), fun e => (by subst e; rw [Tryz.underlying55] at h1; injection h1 with h1; cases h1)⟩
  | bool h1 => exact ⟨fun e => (by subst e; rw [Tryz.underlying57] at h1; injection h1 with h1; cases h1), fun e => (by subst e; rw [Tryz.underlying55] at h1; injection h1 with h1; cases h1)⟩
  | str h1 => exact ⟨fun e => (by subst e; rw [Tryz.underlying57] at h1; injection h1 with h1; cases h1), fun e => (by subst e; rw [Tryz.underlying55] at h1; injection h1 with h1; cases h1)⟩
  | slice h1 h2 h3 ih =>
    refine ⟨fun e => (by subst e; rw [Tryz.underlying57] at h1; injection h1 with h1; cases h1), fun e => ?_⟩
    subst e
    rw [Tryz.underlying55] at h1
    injection h1 with h1
    injection h1 with h1
    obtain ⟨ks, k1, k2, k3⟩ := list_enc (f := encA) (Q := Ty.Ok) fun r hr => (ih r hr).1 h1.symm
    have hm : maxLen = 2 ^ 63 - 1 := rfl
    refine ⟨ks, by rw [encAs_map, k1], ?_, k3⟩
    rw [k2]
    omega
  | @struct t fs cs h1 h2 h3 ih =>
    refine ⟨fun e => ?_, fun e => (by subst e; rw [Tryz.underlying55] at h1; injection h1 with h1; cases h1)⟩
    subst e
    rw [Tryz.underlying57] at h1
    injection h1 with h1
    injection h1 with h1
    subst h1
    rw [cT] at h2
    obtain ⟨a, b, c, d, rfl⟩ := four h2
    simp only [List.mem_cons, List.not_mem_nil, or_false, forall_eq_or_imp, forall_eq, c3, c9, cS, List.drop_zero, List.drop_succ_cons, List.take_succ_cons, List.take_zero] at h3 ih
    obtain ⟨n, e1⟩ := cells_int Tryz.underlying3 h3.1
    obtain ⟨m, e2, l2⟩ := cells_str Tryz.underlying9 h3.2.1
    obtain ⟨s, e3, l3⟩ := cells_str Tryz.underlying9 h3.2.2.1
    obtain ⟨ks, e4, l4, l5⟩ := ih.2.2.2.2 trivial
    injection e1 with e1; injection e2 with e2; injection e3 with e3; injection e4 with e4
    subst e1; subst e2; subst e3; subst e4
    have hm : maxLen = 2 ^ 63 - 1 := rfl
    exact ⟨.mk n m s ks, rfl, .mk (by omega) (by omega) l4 l5⟩

section
variable {H : Type} {enc' : TypeId × Value → H} {W : World}
end

end Go.Proofs.YtkajklfohjcofaaGreatDoor

/- Items of signatures as data, and what the laws' helpers do with lists of them. -/
set_option linter.unusedVariables false
set_option linter.unusedSimpArgs false
namespace Go.Proofs.YtkajklfohjcofaaGreatDoor
open Go.Abs

set_option maxRecDepth 100000 in
theorem laws_szSigItem (x : SigI) (hx : x.Ok) (l : Int) (A : List Box) (h0 : 0 ≤ l) (h1 : l ≤ 1048576) :
    ACalls Tryz.prog 43 [.agg (sEA x), .int .i64 l] A (fun v A' => v = .int .i64 (left l (szI x)) ∧ A' = A) := by
  have hw : IntKind.i64.wrap (l - ↑x.name.length) = l - x.name.length := wrap64 (by have := hx.1; omega) (by have := hx.1; omega)
  rw [sEA]
  refine acalls_enter (cf := cf 19 [0, 1, 2, 4, 11, 17]) foll Tryz.func43 Tryz.ntmps43 (by simp [cf]) ?_
  simp only [Tryz.f43, EnterK_some, zW, zX, zD, builtinA, isLeaf, const1, ustrA, simprocAttr, ti3, ti9, ti57, ti59, ca77, cf, Tryz.results43]
  rw [hw]
  refine ⟨by omega, condK_intro (fun h => ?_) (fun h => ?_)⟩
  · simp only [zW, zX, zD, builtinA, isLeaf, const1, ustrA, simprocAttr, ti3, ti9, ti57, ti59, ca77, cf, Tryz.results43]
    rw [left, if_neg (by rw [szI]; simp at h; omega)]
  · simp only [decide_eq_false_iff_not] at h
    simp only [zW, zX, zD, builtinA, isLeaf, const1, ustrA, simprocAttr, ti3, ti9, ti57, ti59, ca77, cf, Tryz.results43, encA_length, encA_take]
    refine callK_intro (by simp only [zW, zX, zD, builtinA, isLeaf, const1, ustrA, simprocAttr, frzL_encA, Option.map_some]; rfl) (laws_szType x.typ hx.2 _ _ (by omega) (by omega)) ?_ rfl; rintro v A' ⟨rfl, rfl⟩
    by_cases hf : ((szI x : Nat) : Int) ≤ l
    · have hv : left (l - ↑x.name.length) (sz x.typ) = l - szI x := by
        rw [szI] at hf ⊢
        rw [left, if_pos (by omega)]; omega
      have hn : decide (l - szI x < 0) = false := by simp only [decide_eq_false_iff_not]; omega
      rw [hv, left, if_pos hf]
      simp only [zW, zX, zD, builtinA, isLeaf, const1, ustrA, simprocAttr, ti3, ti9, ti57, ti59, ca77, cf, Tryz.results43, hn]
    · have hv : left (l - ↑x.name.length) (sz x.typ) = -1 := by
        rw [szI] at hf
        rw [left, if_neg (by omega)]
      rw [hv, left, if_neg hf]
      simp only [zW, zX, zD, builtinA, isLeaf, const1, ustrA, simprocAttr, ti3, ti9, ti57, ti59, ca77, cf, Tryz.results43]

set_option maxRecDepth 100000 in
theorem laws_szSigItemS (ks : List SigI) (hl : ks.length < 2 ^ 63) (hk : ∀ t ∈ ks, t.Ok) (l : Int) (A : List Box) (h0 : 0 ≤ l) (h1 : l ≤ 1048576) :
    ACalls Tryz.prog 15 [.aslice (sEAs ks), .int .i64 l] A (fun v A' => v = .int .i64 (left l (ks.length + szIs ks)) ∧ A' = A) := by
  have hw : IntKind.i64.wrap (l - ↑(sEAs ks).length) = l - ks.length := by rw [sEAs_length]; exact wrap64 (by omega) (by omega)
  refine acalls_enter (cf := cf 27 [0, 1, 4, 5, 11, 15, 25]) foll Tryz.func15 Tryz.ntmps15 (by simp [cf]) ?_
  simp only [Tryz.f15, EnterK_some, zW, zX, zD, builtinA, isLeaf, const1, ustrA, simprocAttr, ti3, ti22, ti59, ca43, cf, Tryz.results15]
  rw [hw]
  refine condK_intro (fun h => ?_) (fun h => ?_)
  · simp only [zW, zX, zD, builtinA, isLeaf, const1, ustrA, simprocAttr, ti3, ti22, ti59, ca43, cf, Tryz.results15]
    have : ¬ ((ks.length + szIs ks : Nat) : Int) ≤ l := by simp at h; omega
    rw [left, if_neg this]
  · simp only [zW, zX, zD, builtinA, isLeaf, const1, ustrA, simprocAttr, ti3, ti22, ti59, ca43, cf, Tryz.results15]
    refine aloop_intro [0, 1, 5] (fun e A' => ∃ i, i ≤ ks.length ∧ ((ks.length + szIs (ks.take i) : Nat) : Int) ≤ l ∧ e = [(0, .aslice (sEAs ks)), (1, .int .i64 (l - (ks.length + szIs (ks.take i) : Nat))), (5, .int .i64 i)] ∧ A' = A) (fun e _ => ks.length - (intOf (Abs.look 5 e)).toNat) ?_ ?_
    · refine ⟨0, by omega, ?_, ?_, rfl⟩
      · simp at h; simp [szIs]; omega
      · simp only [zW, zX, zD, builtinA, isLeaf, const1, ustrA, simprocAttr, ti3, ti22, ti59, ca43, cf, Tryz.results15]
        simp [szIs]
    · rintro e A' ⟨i, hi, hle, rfl, rfl⟩
      simp only [zW, zX, zD, builtinA, isLeaf, const1, ustrA, simprocAttr, ti3, ti22, ti59, ca43, cf, Tryz.results15]
      refine condK_intro (fun h2 => ?_) (fun h2 => ?_)
      · have hi2 : i < ks.length := by simp [sEAs_length] at h2; exact h2
        have he := sEAs_getD hi2
        have hm := si_mem hi2
        have hs := szIs_take hi2
        simp only [zW, zX, zD, builtinA, isLeaf, const1, ustrA, simprocAttr, ti3, ti22, ti59, ca43, cf, Tryz.results15, he, sEA_length, sEA_take, sEAs_length]
        refine ⟨⟨by omega, by omega⟩, ?_⟩
        refine callK_intro (by simp only [zW, zX, zD, builtinA, isLeaf, const1, ustrA, simprocAttr, frzL_sEA, Option.map_some]; rfl) (laws_szSigItem _ (hk _ hm) _ _ (by omega) (by omega)) ?_ rfl; rintro v A' ⟨rfl, rfl⟩
        by_cases hf : ((ks.length + szIs (ks.take (i + 1)) : Nat) : Int) ≤ l
        · have hv : left (l - ((ks.length + szIs (ks.take i) : Nat) : Int)) (szI (ks.getD i si0)) = l - ((ks.length + szIs (ks.take (i + 1)) : Nat) : Int) := by
            rw [left, if_pos (by omega)]; omega
          have hn : decide (l - ((ks.length + szIs (ks.take (i + 1)) : Nat) : Int) < 0) = false := by simp only [decide_eq_false_iff_not]; omega
          have hi1 : IntKind.i64.wrap ((i : Int) + 1) = ((i + 1 : Nat) : Int) := by rw [wrap64 (by omega) (by omega)]; rfl
          rw [hv]
          simp only [zW, zX, zD, builtinA, isLeaf, const1, ustrA, simprocAttr, ti3, ti22, ti59, ca43, cf, Tryz.results15, hn, hi1, LoopK_eq, sEAs_length]
          refine ⟨⟨i + 1, by omega, hf, rfl⟩, ?_⟩
          simp only [intOf]
          omega
        · have hv : left (l - ((ks.length + szIs (ks.take i) : Nat) : Int)) (szI (ks.getD i si0)) = -1 := by
            rw [left, if_neg (by omega)]
          have hz := szIs_le ks (i + 1)
          rw [hv, left, if_neg (by omega)]
          simp only [zW, zX, zD, builtinA, isLeaf, const1, ustrA, simprocAttr, ti3, ti22, ti59, ca43, cf, Tryz.results15]
      · simp only [zW, zX, zD, builtinA, isLeaf, const1, ustrA, simprocAttr, ti3, ti22, ti59, ca43, cf, Tryz.results15]
        have : i = ks.length := by simp [sEAs_length] at h2; omega
        subst this
        rw [List.take_length] at hle ⊢
        rw [left, if_pos hle]

set_option maxRecDepth 100000 in
theorem laws_toSigItem (x : SigI) (hx : szI x ≤ 1048576) (A : List Box) : ACalls Tryz.prog 45 [.agg (sEA x)] A (fun v A' => v = .agg (sE x) ∧ A' = A) := by
  have h1 : sz x.typ ≤ 1048576 := by rw [szI] at hx; omega
  rw [sEA, sE]
  refine acalls_enter (cf := cf 15 [0, 1, 2, 3]) foll Tryz.func45 Tryz.ntmps45 (by simp [cf]) ?_
  simp only [Tryz.f45, EnterK_some, zW, zX, zD, builtinA, isLeaf, const1, ustrA, simprocAttr, ti3, ti9, ti45, ti49, ti57, ti59, ca78, cf, Tryz.results45]
  simp only [zW, zX, zD, builtinA, isLeaf, const1, ustrA, simprocAttr, ti3, ti9, ti45, ti49, ti57, ti59, ca78, cf, Tryz.results45, encA_length, encA_take]
  refine callK_intro (by simp only [zW, zX, zD, builtinA, isLeaf, const1, ustrA, simprocAttr, frzL_encA, Option.map_some]; rfl) (laws_toType x.typ h1 _) ?_ rfl; rintro v A' ⟨rfl, rfl⟩
  simp only [zW, zX, zD, builtinA, isLeaf, const1, ustrA, simprocAttr, ti3, ti9, ti45, ti49, ti57, ti59, ca78, cf, Tryz.results45, enc_length, enc_take, encD, frzL_enc, Option.map_some, encCl, List.all_cons, Bool.and_true, Bool.and_self]

theorem srow_step {l : List SigI} {i : Nat} (h : i < l.length) : (sEs (l.take i) ++ List.replicate (l.length - i) zsi).set i (sE (l.getD i si0) ++ List.drop 6 ((sEs (l.take i) ++ List.replicate (l.length - i) zsi).getD i [])) = sEs (l.take (i + 1)) ++ List.replicate (l.length - (i + 1)) zsi := by
  have e1 : (sEs (l.take i)).length = i := by rw [sEs_length]; simp; omega
  have e2 : List.drop 6 ((sEs (l.take i) ++ List.replicate (l.length - i) zsi).getD i []) = [] := by
    have e3 : l.length - i = (l.length - (i + 1)) + 1 := by omega
    rw [List.getD, List.getElem?_append_right (by omega), e1, Nat.sub_self, e3, List.replicate_succ]
    rfl
  have e4 : l.length - i = (l.length - (i + 1)) + 1 := by omega
  rw [e2, List.append_nil, List.set_append_right _ _ (by omega), e1, Nat.sub_self, e4, List.replicate_succ, List.set_cons_zero]
  simp only [sEs]
  rw [List.take_add_one, List.map_append, List.append_assoc]
  simp [List.getD, h]

set_option maxRecDepth 100000 in
theorem laws_toSigItemS (ks : List SigI) (hl : ks.length ≤ 1048576) (hk : szIs ks ≤ 1048576) (A : List Box) :
    ACalls Tryz.prog 17 [.aslice (sEAs ks)] A (fun v A' => v = .slice (sEs ks) ∧ A' = A) := by
  have hl2 : ((sEAs ks).length : Int) ≤ 1048576 := by rw [sEAs_length]; omega
  refine acalls_enter (cf := cf 23 [0, 2, 3, 4, 11]) foll Tryz.func17 Tryz.ntmps17 (by simp [cf]) ?_
  simp only [Tryz.f17, EnterK_some, zW, zX, zD, builtinA, isLeaf, const1, ustrA, simprocAttr, ti3, ti22, ti25, ti49, ti59, ca45, cf, Tryz.results17]
  refine ⟨⟨by omega, by omega, by omega⟩, ?_⟩
  refine aloop_intro [0, 3, 4] (fun e A' => ∃ i, i ≤ ks.length ∧ e = [(0, .aslice (sEAs ks)), (3, .own A.length), (4, .int .i64 i)] ∧ A' = A ++ [.row 6 (sEs (ks.take i) ++ List.replicate (ks.length - i) zsi) 0]) (fun e _ => ks.length - (intOf (Abs.look 4 e)).toNat) ?_ ?_
  · simp only [zW, zX, zD, builtinA, isLeaf, const1, ustrA, simprocAttr, ti3, ti22, ti25, ti49, ti59, ca45, cf, Tryz.results17]
    exact ⟨0, by omega, rfl, by rw [sEAs_length]; simp [sEs, zsi]⟩
  · rintro e A' ⟨i, hi, rfl, rfl⟩
    simp only [zW, zX, zD, builtinA, isLeaf, const1, ustrA, simprocAttr, ti3, ti22, ti25, ti49, ti59, ca45, cf, Tryz.results17, sEAs_length]
    refine condK_intro (fun h2 => ?_) (fun h2 => ?_)
    · have hi2 : i < ks.length := by simpa using h2
      have he := sEAs_getD hi2
      have hm := si_mem hi2
      have hzm := szIs_mem hm
      simp only [zW, zX, zD, builtinA, isLeaf, const1, ustrA, simprocAttr, ti3, ti22, ti25, ti49, ti59, ca45, cf, Tryz.results17, he, sEA_length, sEA_take, sEAs_length]
      refine ⟨⟨by omega, by omega⟩, ?_⟩
      refine callK_intro (by simp only [zW, zX, zD, builtinA, isLeaf, const1, ustrA, simprocAttr, frzL_sEA, Option.map_some]; rfl) (laws_toSigItem _ (by omega) _) ?_ rfl; rintro v A' ⟨rfl, rfl⟩
      have hi1 : IntKind.i64.wrap ((i : Int) + 1) = ((i + 1 : Nat) : Int) := by rw [wrap64 (by omega) (by omega)]; rfl
      simp only [zW, zX, zD, builtinA, isLeaf, const1, ustrA, simprocAttr, ti3, ti22, ti25, ti49, ti59, ca45, cf, Tryz.results17, sE_length, frzL_sE, srow_step hi2, hi1, LoopK_eq]
      have hlen : (sEs (List.take i ks)).length + (List.replicate (ks.length - i) zsi).length = ks.length := by
        simp [sEs_length]; omega
      rw [hlen]
      refine ⟨⟨by omega, by omega⟩, ⟨by omega, by omega, fun v hv => sE_leaf _ v hv⟩, ⟨i + 1, by omega, rfl, rfl⟩, ?_⟩
      simp only [intOf]
      omega
    · simp only [zW, zX, zD, builtinA, isLeaf, const1, ustrA, simprocAttr, ti3, ti22, ti25, ti49, ti59, ca45, cf, Tryz.results17]
      have : i = ks.length := by simp at h2; omega
      subst this
      simp [List.take_length]

set_option maxRecDepth 100000 in
theorem laws_eqSigItem (x : SigI) (hx : x.Ok) (A : List Box) : ACalls Tryz.prog 49 [.agg (sE x), .agg (sE x)] A (fun v A' => v = .bool true ∧ A' = A) := by
  rw [sE]
  refine acalls_enter (cf := cf 21 [0, 1, 2, 3, 4, 9, 14, 20]) foll Tryz.func49 Tryz.ntmps49 (by simp [cf]) ?_
  simp only [Tryz.f49, EnterK_some, zW, zX, zD, builtinA, isLeaf, const1, ustrA, simprocAttr, ti3, ti9, ti45, ti49, ca85, cf, Tryz.results49]
  simp only [zW, zX, zD, builtinA, isLeaf, const1, ustrA, simprocAttr, ti3, ti9, ti45, ti49, ca85, cf, Tryz.results49, enc_length, enc_take]
  refine callK_intro (by simp only [zW, zX, zD, builtinA, isLeaf, const1, ustrA, simprocAttr, frzL_enc, Option.map_some]; rfl) (laws_eqType x.typ hx.2 _) ?_ rfl; rintro v A' ⟨rfl, rfl⟩
  simp only [zW, zX, zD, builtinA, isLeaf, const1, ustrA, simprocAttr, ti3, ti9, ti45, ti49, ca85, cf, Tryz.results49]

set_option maxRecDepth 100000 in
theorem laws_eqSigItemS (ks : List SigI) (hl : ks.length < 2 ^ 63) (hk : ∀ t ∈ ks, t.Ok) (A : List Box) :
    ACalls Tryz.prog 19 [.slice (sEs ks), .slice (sEs ks)] A (fun v A' => v = .bool true ∧ A' = A) := by
  refine acalls_enter (cf := cf 27 [0, 1, 4, 5, 10, 14, 26]) foll Tryz.func19 Tryz.ntmps19 (by simp [cf]) ?_
  simp only [Tryz.f19, EnterK_some, zW, zX, zD, builtinA, isLeaf, const1, ustrA, simprocAttr, ti3, ti25, ti49, ca49, cf, Tryz.results19]
  refine aloop_intro [0, 1, 5] (fun e A' => ∃ i, i ≤ ks.length ∧ e = [(0, .slice (sEs ks)), (1, .slice (sEs ks)), (5, .int .i64 i)] ∧ A' = A) (fun e _ => ks.length - (intOf (Abs.look 5 e)).toNat) ?_ ?_
  · simp only [zW, zX, zD, builtinA, isLeaf, const1, ustrA, simprocAttr, ti3, ti25, ti49, ca49, cf, Tryz.results19]
    exact ⟨0, by omega, rfl⟩
  · rintro e A' ⟨i, hi, rfl, rfl⟩
    simp only [zW, zX, zD, builtinA, isLeaf, const1, ustrA, simprocAttr, ti3, ti25, ti49, ca49, cf, Tryz.results19, sEs_length]
    refine condK_intro (fun h2 => ?_) (fun h2 => ?_)
    · have hi2 : i < ks.length := by simpa using h2
      have he := sEs_getD hi2
      have hm := si_mem hi2
      have hi1 : IntKind.i64.wrap ((i : Int) + 1) = ((i + 1 : Nat) : Int) := by rw [wrap64 (by omega) (by omega)]; rfl
      simp only [zW, zX, zD, builtinA, isLeaf, const1, ustrA, simprocAttr, ti3, ti25, ti49, ca49, cf, Tryz.results19, he, sE_length, sE_take, sEs_length]
      refine .inl ⟨by kernel_rfl, by kernel_rfl, ⟨by omega, by omega⟩, ⟨by omega, by omega⟩, ?_⟩
      refine callD_intro (by simp only [zW, zX, zD, builtinA, isLeaf, const1, ustrA, simprocAttr, frzL_sE, Option.map_some] <;> rfl) (laws_eqSigItem _ (hk _ hm) _) ?_ rfl
      simp only [zW, zX, zD, builtinA, isLeaf, const1, ustrA, simprocAttr, ti3, ti25, ti49, ca49, cf, Tryz.results19, hi1, LoopK_eq]
      refine ⟨⟨i + 1, by omega, rfl⟩, ?_⟩
      simp only [intOf]
      omega
    · simp only [zW, zX, zD, builtinA, isLeaf, const1, ustrA, simprocAttr, ti3, ti25, ti49, ca49, cf, Tryz.results19]
end Go.Proofs.YtkajklfohjcofaaGreatDoor

/- From a law's argument, a list of items, to data. -/
set_option linter.unusedVariables false
set_option linter.unusedSimpArgs false
namespace Go.Proofs.YtkajklfohjcofaaGreatDoor
open Go.Abs Go.RowKit Go.ChangeShapes Go.WideShapes Go.ChangeAt Go.ChangeMaps

def SigsOk (l : List SigI) : Prop := l.length < 2 ^ 63 ∧ ∀ x ∈ l, x.Ok
theorem cI : Tryz.prog.cellsOf 59 = 6 := by kernel_rfl
theorem six {α : Type} {l : List α} (h : l.length = 6) : ∃ a b c d e f, l = [a, b, c, d, e, f] := by
  match l, h with
  | [a, b, c, d, e, f], _ => exact ⟨a, b, c, d, e, f, rfl⟩

theorem si_of {cz : List AV} (h : Cells Tryz.prog 59 cz) : ∃ x : SigI, cz = sEA x ∧ x.Ok := by
  generalize ht : 59 = t at h
  cases h with
  | int h1 h2 => subst ht; rw [Tryz.underlying59] at h1; injection h1 with h1; cases h1
  | bool h1 => subst ht; rw [Tryz.underlying59] at h1; injection h1 with h1; cases h1
  | str h1 => subst ht; rw [Tryz.underlying59] at h1; injection h1 with h1; cases h1
  | slice h1 h2 h3 => subst ht; rw [Tryz.underlying59] at h1; injection h1 with h1; cases h1
  | @struct t fs cs h1 h2 h3 =>
    subst ht
    rw [Tryz.underlying59] at h1
    injection h1 with h1
    injection h1 with h1
    subst h1
    rw [cI] at h2
    obtain ⟨a, b, c, d, e, f, rfl⟩ := six h2
    simp only [List.mem_cons, List.not_mem_nil, or_false, forall_eq_or_imp, forall_eq, c3, c9, cS, cT, List.drop_zero, List.drop_succ_cons, List.take_succ_cons, List.take_zero] at h3
    obtain ⟨n, e1⟩ := cells_int Tryz.underlying3 h3.1
    obtain ⟨m, e2, l2⟩ := cells_str Tryz.underlying9 h3.2.1
    obtain ⟨τ, e3, l3⟩ := (ty_of h3.2.2).1 rfl
    injection e1 with e1; injection e2 with e2
    subst e1; subst e2
    have hm : maxLen = 2 ^ 63 - 1 := rfl
    exact ⟨⟨n, m, τ⟩, by simp only [sEA]; rw [← e3], by simp only [SigI.Ok]; exact ⟨by omega, l3⟩⟩

theorem sis_of {cz : List AV} (h : Cells Tryz.prog 22 cz) : ∃ l, cz = [.aslice (sEAs l)] ∧ SigsOk l := by
  generalize ht : 22 = t at h
  cases h with
  | int h1 h2 => subst ht; rw [Tryz.underlying22] at h1; injection h1 with h1; cases h1
  | bool h1 => subst ht; rw [Tryz.underlying22] at h1; injection h1 with h1; cases h1
  | str h1 => subst ht; rw [Tryz.underlying22] at h1; injection h1 with h1; cases h1
  | slice h1 h2 h3 =>
    subst ht
    rw [Tryz.underlying22] at h1
    injection h1 with h1
    injection h1 with h1
    subst h1
    obtain ⟨ks, k1, k2, k3⟩ := list_enc (f := sEA) (Q := SigI.Ok) fun r hr => si_of (h3 r hr)
    have hm : maxLen = 2 ^ 63 - 1 := rfl
    refine ⟨ks, by rw [sEAs, k1], ?_, k3⟩
    rw [k2]; omega
  | @struct t fs cs h1 h2 h3 => subst ht; rw [Tryz.underlying22] at h1; injection h1 with h1; cases h1

theorem plainI : plainB Tryz.prog [22, 59, 57, 55, 3, 9] = true := by kernel_rfl

section
variable {H : Type} {enc' : TypeId × Value → H} {W : World}
set_option maxRecDepth 100000 in
/-- an argument that is a list of items -/
theorem rv_sigs {v : Value} {d : DataW H} {p : List MemPlace} {r : Reach} {b0 : Nat} (hval : Value.okWide Tryz.prog W r b0 22 v) (h : DataW.Trod enc' Tryz.prog W 0 (fun _ => true) true 22 v d p) :
    ∃ l : List SigI, SigsOk l ∧ RV (Abs.start W) W (.aslice (sEAs l)) v := by
  obtain ⟨a, len, cap, rfl⟩ := okWide_slice Tryz.underlying22 hval
  obtain ⟨fuel, hf⟩ := h
  have hmem : 22 ∈ [22, 59, 57, 55, 3, 9] := .head _
  obtain ⟨cz, ho⟩ := plain_opened plainI fuel hmem hf
  obtain ⟨l, he, hk⟩ := sis_of ho.typed
  subst he
  refine ⟨l, hk, ?_⟩
  have := ho.rel 0 (by simp)
  simpa [Value.cells, List.getD] using this
end
end Go.Proofs.YtkajklfohjcofaaGreatDoor
