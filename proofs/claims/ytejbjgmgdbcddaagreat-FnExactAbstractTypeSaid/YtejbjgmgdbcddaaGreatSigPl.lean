/- What a signature's method plain makes: items that are owned. -/
import Derived.Test.YtejbjgmgdbcddaaGreatSigBase
import Derived.Test.YtejbjgmgdbcddaaGreatOwnSi
import Derived.Test.YtejbjgmgdbcddaaGreatOwnPlain
import Derived.Test.YtejbjgmgdbcddaaGreatAbsW3
set_option linter.unusedVariables false
set_option linter.unusedSimpArgs false
namespace Go.Proofs.YtejbjgmgdbcddaaGreat
open Go.Abs

/-- new cells that hold an item -/
def NewS (A : List Box) (x : SigI) (cs : List AV) (A' : List Box) : Prop :=
  A.length ≤ A'.length ∧ (∀ k, k < A.length → A'.getD k .dead = A.getD k .dead) ∧ ∃ v S, cs = sRow x v ∧ OwnK A' x.typ.kids v S ∧ S.Nodup ∧ (∀ i ∈ S, A.length ≤ i) ∧ (v = .nils ∨ ∃ i, v = .own i)
def PlI (y : VI) : Prop := ∀ A, ACalls Tryz.prog ((pickI 88 94 100) y) [viX y] A (fun r A' => ∃ cs, r = .agg cs ∧ NewS A (siOf y) cs A')
theorem prow_row (x : SigI) (w : VT) (h : x.typ = toTy w) (n : Nat) : ∃ v, prow w n true = [.int .i64 x.typ.kind, .str x.typ.mod, .str x.typ.name, v] ∧ (v = .nils ∨ ∃ i, v = .own i) := by
  rw [h]
  cases w with
  | num => exact ⟨_, rfl, .inl rfl⟩
  | nm m k => exact ⟨_, rfl, .inl rfl⟩
  | fn a b => exact ⟨_, rfl, .inr ⟨_, rfl⟩⟩
theorem newS_of {A : List Box} {x : SigI} {w : VT} (h : x.typ = toTy w) {B0 B1 : List Box} {n : Nat} (hn : n = A.length + B0.length) : NewS A x (.int .i64 x.kind :: .str x.name :: prow w n true) (A ++ (B0 ++ (pbox w n ++ B1))) := by
  obtain ⟨v, hv, hv2⟩ := prow_row x w h n
  have ho := own_plain w n true (A ++ (B0 ++ (pbox w n ++ B1))) fun k hk => by
    rw [Abs.getD_append_right (by omega), Abs.getD_append_right (by omega), Abs.getD_append_left (by rw [pbox_length]; omega)]
    congr 1; omega
  rw [hv] at ho
  refine ⟨by simp, fun k hk => Abs.getD_append_left hk, v, pidx w n, by rw [hv]; rfl, ?_, pidx_nodup _ _, fun i hi => by have := pidx_in _ _ i hi; omega, hv2⟩
  rw [h]
  cases ht : toTy w with
  | mk k m n ks =>
    rw [ht, ownT_mk] at ho
    obtain ⟨v', e, hK⟩ := ho
    simp only [List.cons.injEq, and_true] at e
    rw [e.2.2.2]
    exact hK
set_option maxRecDepth 100000 in
theorem ab_plain (n : List UInt8) : PlI (.ab n) := fun A => by
  show ACalls Tryz.prog 88 _ _ _
  rw [viX]
  refine acalls_enterK (cf := cf 6 [0, 1, 2]) foll Tryz.func88 Tryz.ntmps88 (by simp [cf]) ?_
  simp only [Tryz.f88, EnterK_some, zW, zX, zD, builtinA, isLeaf, const1, ustrA, simprocAttr, ti9, ti44, ti56, cf, Tryz.results88]
  exact ⟨_, rfl, by simp, fun k hk => Abs.getD_append_left hk, .nils, [], rfl, .inl ⟨rfl, rfl, rfl⟩, by simp, by simp, .inl rfl⟩
set_option maxRecDepth 100000 in
theorem al_plain (n : List UInt8) (v : VT) : PlI (.al n v) := fun A => by
  show ACalls Tryz.prog 94 _ _ _
  have cv : ACalls Tryz.prog ((pickF 113 120 106) v) [vX v] (A ++ [Box.cells [.str n, .iface (vT v) (vX v)], Box.cells [.int .i64 0, .str [], .int .i64 0, .str [], .str [], .nils]]) (fun r A' => r = .agg (prow v (A.length + 2) true) ∧ A' = A ++ (Box.cells [.str n, .iface (vT v) (vX v)] :: Box.cells [.int .i64 0, .str [], .int .i64 0, .str [], .str [], .nils] :: pbox v (A.length + 2))) := by
    have := plainM v (A ++ [Box.cells [.str n, .iface (vT v) (vX v)], Box.cells [.int .i64 0, .str [], .int .i64 0, .str [], .str [], .nils]])
    simpa using this
  have hpl : ∀ n, (prow v n true).length = 4 := fun n => prow_length _ _ _
  rw [viX]
  refine acalls_enterK (cf := cf 9 [0, 1, 2]) foll Tryz.func94 Tryz.ntmps94 (by simp [cf]) ?_
  simp only [Tryz.f94, EnterK_some, zW, zX, zD, builtinA, isLeaf, const1, ustrA, simprocAttr, ti9, ti44, ti92, ti96, cf, Tryz.results94]
  refine .inr (drawE_intro [(false, 0, 1), (false, 0, 1), (false, 0, 0), (false, 0, 0), (true, 0, 0), (false, 1, 1), (true, 1, 1)] [A ++ [Box.cells [.str n, .iface (vT v) (vX v)], Box.cells [.int .i64 0, .str [], .int .i64 0, .str [], .str [], .nils]], A ++ (Box.cells [.str n, .iface (vT v) (vX v)] :: Box.cells [.int .i64 0, .str [], .int .i64 0, .str [], .str [], .nils] :: pbox v (A.length + 2)), A ++ (Box.cells [.str n, .iface (vT v) (vX v)] :: Box.cells (.int .i64 2 :: .str n :: prow v (A.length + 2) true) :: pbox v (A.length + 2))] 2 rfl (by kernel_rfl) (by kernel_rfl) (by kernel_rfl) (by kernel_rfl) (by kernel_rfl) (by kernel_rfl) ?_)
  simp only [zW, zX, zD, builtinA, isLeaf, const1, ustrA, simprocAttr, ti9, ti44, ti92, ti96, cf, Tryz.results94]
  refine wpG_invoke _ _ _ _ _ _ _ _ _ _ _ _ _ _ _ _ _ _ ?_
  simp only [zW, zX, zD, builtinA, isLeaf, const1, ustrA, simprocAttr, ti9, ti44, ti92, ti96, cf, Tryz.results94]
  refine meth_invE (met3 (by kernel_rfl) (by kernel_rfl) (by kernel_rfl) (by kernel_rfl) (by kernel_rfl) (by kernel_rfl)) cv rfl ?_
  simp only [zW, zX, zD, builtinA, isLeaf, const1, ustrA, simprocAttr, ti9, ti44, ti92, ti96, cf, Tryz.results94, hpl]
  rw [List.take_of_length_le (Nat.le_of_eq (hpl _))]
  have h := newS_of (A := A) (x := siOf (.al n v)) (w := v) rfl (B0 := [Box.cells [.str n, .iface (vT v) (vX v)], Box.cells (.int .i64 2 :: .str n :: prow v (A.length + 2) true)]) (B1 := []) (n := A.length + 2) rfl
  rw [List.append_nil] at h
  exact ⟨_, rfl, h⟩
set_option maxRecDepth 100000 in
theorem va_plain (n : List UInt8) (v : VT) : PlI (.va n v) := fun A => by
  show ACalls Tryz.prog 100 _ _ _
  have cv : ACalls Tryz.prog ((pickF 113 120 106) v) [vX v] (A ++ [Box.cells [.str n, .iface (vT v) (vX v)], Box.cells [.int .i64 0, .str [], .int .i64 0, .str [], .str [], .nils]]) (fun r A' => r = .agg (prow v (A.length + 2) true) ∧ A' = A ++ (Box.cells [.str n, .iface (vT v) (vX v)] :: Box.cells [.int .i64 0, .str [], .int .i64 0, .str [], .str [], .nils] :: pbox v (A.length + 2))) := by
    have := plainM v (A ++ [Box.cells [.str n, .iface (vT v) (vX v)], Box.cells [.int .i64 0, .str [], .int .i64 0, .str [], .str [], .nils]])
    simpa using this
  have hpl : ∀ n, (prow v n true).length = 4 := fun n => prow_length _ _ _
  rw [viX]
  refine acalls_enterK (cf := cf 9 [0, 1, 2]) foll Tryz.func100 Tryz.ntmps100 (by simp [cf]) ?_
  simp only [Tryz.f100, EnterK_some, zW, zX, zD, builtinA, isLeaf, const1, ustrA, simprocAttr, ti9, ti44, ti92, ti97, cf, Tryz.results100]
  refine .inr (drawE_intro [(false, 0, 1), (false, 0, 1), (false, 0, 0), (false, 0, 0), (true, 0, 0), (false, 1, 1), (true, 1, 1)] [A ++ [Box.cells [.str n, .iface (vT v) (vX v)], Box.cells [.int .i64 0, .str [], .int .i64 0, .str [], .str [], .nils]], A ++ (Box.cells [.str n, .iface (vT v) (vX v)] :: Box.cells [.int .i64 0, .str [], .int .i64 0, .str [], .str [], .nils] :: pbox v (A.length + 2)), A ++ (Box.cells [.str n, .iface (vT v) (vX v)] :: Box.cells (.int .i64 3 :: .str n :: prow v (A.length + 2) true) :: pbox v (A.length + 2))] 2 rfl (by kernel_rfl) (by kernel_rfl) (by kernel_rfl) (by kernel_rfl) (by kernel_rfl) (by kernel_rfl) ?_)
  simp only [zW, zX, zD, builtinA, isLeaf, const1, ustrA, simprocAttr, ti9, ti44, ti92, ti97, cf, Tryz.results100]
  refine wpG_invoke _ _ _ _ _ _ _ _ _ _ _ _ _ _ _ _ _ _ ?_
  simp only [zW, zX, zD, builtinA, isLeaf, const1, ustrA, simprocAttr, ti9, ti44, ti92, ti97, cf, Tryz.results100]
  refine meth_invE (met3 (by kernel_rfl) (by kernel_rfl) (by kernel_rfl) (by kernel_rfl) (by kernel_rfl) (by kernel_rfl)) cv rfl ?_
  simp only [zW, zX, zD, builtinA, isLeaf, const1, ustrA, simprocAttr, ti9, ti44, ti92, ti97, cf, Tryz.results100, hpl]
  rw [List.take_of_length_le (Nat.le_of_eq (hpl _))]
  have h := newS_of (A := A) (x := siOf (.va n v)) (w := v) rfl (B0 := [Box.cells [.str n, .iface (vT v) (vX v)], Box.cells (.int .i64 3 :: .str n :: prow v (A.length + 2) true)]) (B1 := []) (n := A.length + 2) rfl
  rw [List.append_nil] at h
  exact ⟨_, rfl, h⟩
theorem plI : ∀ y, PlI y
  | .ab n => ab_plain n
  | .al n v => al_plain n v
  | .va n v => va_plain n v

/-- a list of items that is owned -/
theorem vRow_eq (y : VI) : vRow y = [.iface (viT y) (viX y)] := rfl
set_option maxRecDepth 100000 in
set_option maxHeartbeats 4000000 in
theorem impl_plainItems (ys : List VI) (hl : ys.length ≤ 1000) (A : List Box) : ACalls Tryz.prog 33 [.slice (vRows ys)] A (fun r A' => ∃ j, r = .own j ∧ NewG A (ys.map siOf) j A') := by
  have hl2 : ((vRows ys).length : Int) ≤ 1000 := by rw [vRows_length]; omega
  refine ACalls.grow ?_
  refine acalls_enterK (cf := cf 23 [0, 2, 3, 4, 5, 9, 10, 11, 12]) foll Tryz.func33 Tryz.ntmps33 (by simp [cf]) ?_
  simp only [Tryz.f33, EnterK_some, zW, zX, zD, builtinA, isLeaf, const1, ustrA, simprocAttr, ti3, ti24, ti44, ti46, ti54, cf, Tryz.results33]
  refine ⟨⟨by omega, by omega, by omega⟩, ?_⟩
  refine aloop_intro [3, 9, 10, 11] (fun e A' => ∃ (p : Nat) (rl : List (List AV)) (SL : List Nat) (g : Bool), p ≤ ys.length ∧ e = [(3, .own A.length), (9, .slice (vRows ys)), (10, .int .i64 ys.length), (11, .int .i64 p)] ∧ A'.getD A.length .dead = (bif g then .gr none 6 (rl ++ List.replicate (ys.length - p) zsi) else .row 6 (rl ++ List.replicate (ys.length - p) zsi) 0) ∧
    rl.length = p ∧ OwnG A' ((ys.map siOf).take p) rl SL ∧ SL.Nodup ∧ (∀ i ∈ SL, A.length < i) ∧ A.length < A'.length ∧ ∀ k, k < A.length → A'.getD k .dead = A.getD k .dead) (fun e _ => ys.length - (intOf (Abs.look 11 e)).toNat) ?_ ?_
  · simp only [zW, zX, zD, builtinA, isLeaf, const1, ustrA, simprocAttr, ti3, ti24, ti44, ti46, ti54, cf, Tryz.results33, vRows_length]
    refine ⟨0, [], [], false, by omega, rfl, ?_, rfl, by simp [OwnG], by simp, by simp, by simp, fun k hk => Abs.getD_append_left hk⟩
    rfl
  · rintro e A' ⟨p, rl, SL, g, hp, rfl, hb, hrl, hO, hN, hlo, hlt, hfr⟩
    by_cases hp2 : p < ys.length
    · have d2 : decide ((p : Int) < (ys.length : Int)) = true := by simp; omega
      have he := vRows_getD hp2
      have hsi : ((ys.map siOf).take p ++ [siOf (ys.getD p vi0)]) = (ys.map siOf).take (p + 1) := by
        rw [List.take_add_one]; simp [List.getD, hp2]
      generalize hyv : ys.getD p vi0 = y at *
      rw [vRow] at he
      simp only [zW, zX, zD, builtinA, isLeaf, const1, ustrA, simprocAttr, ti3, ti24, ti44, ti46, ti54, cf, Tryz.results33, vRows_length, d2, he]
      refine ⟨⟨by omega, by omega⟩, ?_⟩
      refine wpO_invoke _ _ _ _ _ _ _ _ _ _ _ _ _ _ _ _ ?_
      simp only [zW, zX, zD, builtinA, isLeaf, const1, ustrA, simprocAttr, ti3, ti24, ti44, ti46, ti54, cf, Tryz.results33]
      refine methI_invK (metI3 (by kernel_rfl) (by kernel_rfl) (by kernel_rfl) (by kernel_rfl) (by kernel_rfl) (by kernel_rfl)) (plI y _) rfl (fun _ => rfl) ?_
      rintro r A3 ⟨cs, rfl, hle, hf3, v, S, rfl, hK, hND, hge, hv⟩
      have hi1 : IntKind.i64.wrap ((p : Int) + 1) = ((p + 1 : Nat) : Int) := by rw [wrap64 (by omega) (by omega)]; rfl
      have hb3 : A3.getD A.length .dead = (bif g then .gr none 6 (rl ++ List.replicate (ys.length - p) zsi) else .row 6 (rl ++ List.replicate (ys.length - p) zsi) 0) := by rw [hf3 _ hlt]; exact hb
      have hz : ∀ v, (rl ++ List.replicate (ys.length - p) zsi).set p (sRow (siOf y) v) = (rl ++ [sRow (siOf y) v]) ++ List.replicate (ys.length - (p + 1)) zsi := fun v => by
        rw [show ys.length - p = (ys.length - (p + 1)) + 1 by omega, List.replicate_succ, List.set_append_right _ _ (by omega), hrl, Nat.sub_self]
        simp
      have hlr : (rl ++ List.replicate (ys.length - p) zsi).length = ys.length := by simp; omega
      have hdz : List.drop 6 ((rl ++ List.replicate (ys.length - p) zsi).getD p []) = [] := by
        rw [Abs.getD_append_right (by omega), hrl, Nat.sub_self, getD_repl (by omega)]; rfl
      have hpr : (0 : Int) ≤ (p : Int) ∧ (p : Int) < ((ys.length : Nat) : Int) := ⟨by omega, by omega⟩
      have fin : ∀ (g' : Bool) (v : AV) (Z : Box), OwnK A3 (siOf y).typ.kids v S → Z = (bif g' then Box.gr none 6 ((rl ++ [sRow (siOf y) v]) ++ List.replicate (ys.length - (p + 1)) zsi) else .row 6 ((rl ++ [sRow (siOf y) v]) ++ List.replicate (ys.length - (p + 1)) zsi) 0) → ∃ (p' : Nat) (rl' : List (List AV)) (SL' : List Nat) (g' : Bool), p' ≤ ys.length ∧ [(3, AV.own A.length), (9, .slice (vRows ys)), (10, .int .i64 ys.length), (11, .int .i64 ((p + 1 : Nat) : Int))] = [(3, .own A.length), (9, .slice (vRows ys)), (10, .int .i64 ys.length), (11, .int .i64 p')] ∧ (A3.set A.length Z).getD A.length .dead = (bif g' then .gr none 6 (rl' ++ List.replicate (ys.length - p') zsi) else .row 6 (rl' ++ List.replicate (ys.length - p') zsi) 0) ∧
          rl'.length = p' ∧ OwnG (A3.set A.length Z) ((ys.map siOf).take p') rl' SL' ∧ SL'.Nodup ∧ (∀ i ∈ SL', A.length < i) ∧ A.length < (A3.set A.length Z).length ∧ ∀ k, k < A.length → (A3.set A.length Z).getD k .dead = A.getD k .dead := fun g' v Z hK hZ => by
        have hlt3 : A.length < A3.length := by omega
        have low := hO.low
        refine ⟨p + 1, rl ++ [sRow (siOf y) v], SL ++ S, g', by omega, rfl, ?_, by simp [hrl], ?_, ?_, ?_, by simpa using hlt3, fun k hk => ?_⟩
        · rw [getD_set_self hlt3]; exact hZ
        · rw [← hsi]
          refine (hO.frame fun i hi => ?_).append ?_
          · have h1 := hlo i hi
            have h2 := low i hi
            rw [getD_set_ne' (by omega), hf3 i h2]
          · rw [OwnG]
            refine ⟨v, [], S, [], rfl, by simp, hK.frame fun i hi => ?_, by simp [OwnG]⟩
            have := hge i hi
            rw [getD_set_ne' (by omega)]
        · refine List.nodup_append.2 ⟨hN, hND, fun x hx y hy => ?_⟩
          have := low x hx
          have := hge y hy
          omega
        · intro i hi
          rcases List.mem_append.1 hi with hi | hi
          · exact hlo i hi
          · have := hge i hi; omega
        · rw [getD_set_ne' (by omega), hf3 k (by omega), hfr k hk]
      have lf : ∀ w ∈ sRow (siOf y) (.slice []), isLeaf w = true := by simp [sRow, isLeaf]
      have el : ∀ w ∈ sRow (siOf y) (.slice []), isElem w = true := by simp [sRow, isElem, isLeaf]
      have el2 : ∀ i, ∀ w ∈ sRow (siOf y) (.own i), isElem w = true := by simp [sRow, isElem, isLeaf]
      have mz : ∀ {P : Prop}, P → P ∧ ys.length - (intOf (AV.int .i64 ((p + 1 : Nat) : Int))).toNat < ys.length - (intOf (AV.int .i64 (p : Int))).toNat := fun h => ⟨h, by simp only [intOf]; omega⟩
      rcases hv with rfl | ⟨i, rfl⟩
      · have hK2 : OwnK A3 (siOf y).typ.kids (.slice []) S := by
          rcases hK with ⟨_, h1, h2⟩ | ⟨h0, _⟩ | ⟨i, _, _, h0, _⟩
          · exact .inr (.inl ⟨rfl, h1, h2⟩)
          · cases h0
          · cases h0
        have fin2 := fun g' Z => fin g' (.slice []) Z hK2
        have hz2 := hz (.slice [])
        clear fin hz
        simp only [sRow] at hz2 fin2 lf el ⊢
        cases g with
        | false =>
          simp only [cond_false] at hb3
          simp only [zW, zX, zD, builtinA, isLeaf, const1, ustrA, simprocAttr, ti3, ti24, ti44, ti46, ti54, cf, Tryz.results33, hb3, hlr, hz2, hdz, hi1, LoopK_eq]
          exact ⟨hpr, ⟨by omega, by omega, fun w hw => lf w hw⟩, mz (by simpa only [cond_false, cond_true, List.append_assoc, List.cons_append, List.nil_append, List.length_set] using fin2 false _ rfl)⟩
        | true =>
          simp only [cond_true] at hb3
          simp only [zW, zX, zD, builtinA, isLeaf, const1, ustrA, simprocAttr, ti3, ti24, ti44, ti46, ti54, cf, Tryz.results33, hb3, hlr, hz2, hdz, hi1, LoopK_eq]
          exact ⟨hpr, ⟨by omega, fun w hw => el w hw⟩, mz (by simpa only [cond_false, cond_true, List.append_assoc, List.cons_append, List.nil_append, List.length_set] using fin2 true _ rfl)⟩
      · obtain ⟨rws, hg⟩ : ∃ rws, A3.getD i .dead = .gr none 4 rws := by
          rcases hK with ⟨h0, _⟩ | ⟨h0, _⟩ | ⟨i', rws, _, h0, _, hg, _⟩
          · cases h0
          · cases h0
          · cases h0; exact ⟨rws, hg⟩
        have fin2 := fun g' Z => fin g' (.own i) Z hK
        have hz2 := hz (.own i)
        clear fin hz
        simp only [sRow] at hz2 fin2 el2 ⊢
        cases g with
        | false =>
          simp only [cond_false] at hb3
          simp only [zW, zX, zD, builtinA, isLeaf, const1, ustrA, simprocAttr, ti3, ti24, ti44, ti46, ti54, cf, Tryz.results33, hb3, hg, hlr, hz2, hdz, hi1, LoopK_eq]
          exact ⟨hpr, ⟨by omega, fun w hw => el2 i w hw⟩, mz (by simpa only [cond_false, cond_true, List.append_assoc, List.cons_append, List.nil_append, List.length_set] using fin2 true _ rfl)⟩
        | true =>
          simp only [cond_true] at hb3
          simp only [zW, zX, zD, builtinA, isLeaf, const1, ustrA, simprocAttr, ti3, ti24, ti44, ti46, ti54, cf, Tryz.results33, hb3, hg, hlr, hz2, hdz, hi1, LoopK_eq]
          exact ⟨hpr, ⟨by omega, fun w hw => el2 i w hw⟩, mz (by simpa only [cond_false, cond_true, List.append_assoc, List.cons_append, List.nil_append, List.length_set] using fin2 true _ rfl)⟩
    · have d2 : decide ((p : Int) < (ys.length : Int)) = false := by simp; omega
      have e : p = ys.length := by omega
      subst e
      simp only [zW, zX, zD, builtinA, isLeaf, const1, ustrA, simprocAttr, ti3, ti24, ti44, ti46, ti54, cf, Tryz.results33, d2]
      rw [List.take_of_length_le (by simp)] at hO
      have low := hO.low
      have hnd : (A.length :: SL).Nodup := List.nodup_cons.2 ⟨fun h => by have := hlo _ h; omega, hN⟩
      have hge : ∀ i ∈ A.length :: SL, A.length ≤ i := fun i hi => by
        rcases List.mem_cons.1 hi with rfl | hi
        · exact Nat.le_refl _
        · have := hlo i hi; omega
      have e0 : rl ++ List.replicate (ys.length - ys.length) zsi = rl := by simp
      rw [e0] at hb
      cases g with
      | false => exact .inr ⟨A.length, 6, rl, hb, A.length, rfl, by simp; omega, fun k hk => by rw [getD_set_ne' (by omega)]; exact hfr k hk, rl, SL, getD_set_self hlt, hO.frame fun i hi => by have := hlo i hi; rw [getD_set_ne' (by omega)], hnd, hge⟩
      | true => exact .inl ⟨A.length, rfl, by omega, hfr, rl, SL, hb, hO, hnd, hge⟩
end Go.Proofs.YtejbjgmgdbcddaaGreat
