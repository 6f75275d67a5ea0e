/- SigPl, SigOut, SigStr. -/
import Derived.Test.YtkajklfohjcofaaGreatDoorK08
import Derived.Test.YtkajklfohjcofaaGreatDoorAbsW3
/- What a signature's method plain makes: items that are owned. -/
set_option linter.unusedVariables false
set_option linter.unusedSimpArgs false
namespace Go.Proofs.YtkajklfohjcofaaGreatDoor
open Go.Abs

/-- new cells that hold an item -/
def NewS (A : List Box) (x : SigI) (cs : List AV) (A' : List Box) : Prop :=
  A.length ≤ A'.length ∧ (∀ k, k < A.length → A'.getD k .dead = A.getD k .dead) ∧ ∃ v S, cs = sRow x v ∧ OwnK A' x.typ.kids v S ∧ S.Nodup ∧ (∀ i ∈ S, A.length ≤ i) ∧ (v = .nils ∨ ∃ i, v = .own i)
def PlI (y : VI) : Prop := ∀ A, ACalls Tryz.prog ((pickI 170 187 204) y) [viX y] A (fun r A' => ∃ cs, r = .agg cs ∧ NewS A (siOf y) cs A')
theorem prow_row (x : SigI) (w : VT) (h : x.typ = toTy w) (n : Nat) : ∃ v, prow w n true = [.int .i64 x.typ.kind, .str x.typ.mod, .str x.typ.name, v] ∧ (v = .nils ∨ ∃ i, v = .own i) := by
  rw [h]
  cases w with
  | num => exact ⟨_, rfl, .inl rfl⟩
  | nm m k => exact ⟨_, rfl, .inl rfl⟩
  | fn a b => exact ⟨_, rfl, .inr ⟨_, rfl⟩⟩
theorem newS_of {A : List Box} {x : SigI} {w : VT} (h : x.typ = toTy w) {B0 B1 : List Box} {n : Nat} (hn : n = A.length + B0.length) : NewS A x (.int .i64 x.kind :: .str x.name :: prow w n true) (A ++ (B0 ++ (pbox w n ++ B1))) := by
  obtain ⟨v, hv, hv2⟩ := prow_row x w h n
  have ho := own_plain w n true (A ++ (B0 ++ (pbox w n ++ B1))) fun k hk => by
    rw [Abs.getD_append_right (by omega), Abs.getD_append_right (by omega), Abs.getD_append_left (by rw [pbox_length]; omega)]
    congr 1; omega
  rw [hv] at ho
  refine ⟨by simp, fun k hk => Abs.getD_append_left hk, v, pidx w n, by rw [hv]; rfl, ?_, pidx_nodup _ _, fun i hi => by have := pidx_in _ _ i hi; omega, hv2⟩
  rw [h]
  cases ht : toTy w with
  | mk k m n ks =>
    rw [ht, ownT_mk] at ho
    obtain ⟨v', e, hK⟩ := ho
    simp only [List.cons.injEq, and_true] at e
    rw [e.2.2.2]
    exact hK
set_option maxRecDepth 100000 in
theorem ab_plain (n : List UInt8) : PlI (.ab n) := fun A => by
  show ACalls Tryz.prog 170 _ _ _
  rw [viX]
  refine acalls_enterK (cf := cf 6 [0, 1, 2]) foll Tryz.func170 Tryz.ntmps170 (by simp [cf]) ?_
  simp only [Tryz.f170, EnterK_some, zW, zX, zD, builtinA, isLeaf, const1, ustrA, simprocAttr, ti9, ti49, ti89, cf, Tryz.results170]
  exact ⟨_, rfl, by simp, fun k hk => Abs.getD_append_left hk, .nils, [], rfl, .inl ⟨rfl, rfl, rfl⟩, by simp, by simp, .inl rfl⟩
set_option maxRecDepth 100000 in
theorem al_plain (n : List UInt8) (v : VT) : PlI (.al n v) := fun A => by
  show ACalls Tryz.prog 187 _ _ _
  have cv : ACalls Tryz.prog ((pickF 210 217 180) v) [vX v] (A ++ [Box.cells [.str n, .iface (vT v) (vX v)], Box.cells [.int .i64 0, .str [], .int .i64 0, .str [], .str [], .nils]]) (fun r A' => r = .agg (prow v (A.length + 2) true) ∧ A' = A ++ (Box.cells [.str n, .iface (vT v) (vX v)] :: Box.cells [.int .i64 0, .str [], .int .i64 0, .str [], .str [], .nils] :: pbox v (A.length + 2))) := by
    have := plainM v (A ++ [Box.cells [.str n, .iface (vT v) (vX v)], Box.cells [.int .i64 0, .str [], .int .i64 0, .str [], .str [], .nils]])
    simpa using this
  have hpl : ∀ n, (prow v n true).length = 4 := fun n => prow_length _ _ _
  rw [viX]
  refine acalls_enterK (cf := cf 9 [0, 1, 2]) foll Tryz.func187 Tryz.ntmps187 (by simp [cf]) ?_
  simp only [Tryz.f187, EnterK_some, zW, zX, zD, builtinA, isLeaf, const1, ustrA, simprocAttr, ti9, ti49, ti92, ti162, cf, Tryz.results187]
  refine .inr (drawE_intro [(false, 0, 1), (false, 0, 1), (false, 0, 0), (false, 0, 0), (true, 0, 0), (false, 1, 1), (true, 1, 1)] [A ++ [Box.cells [.str n, .iface (vT v) (vX v)], Box.cells [.int .i64 0, .str [], .int .i64 0, .str [], .str [], .nils]], A ++ (Box.cells [.str n, .iface (vT v) (vX v)] :: Box.cells [.int .i64 0, .str [], .int .i64 0, .str [], .str [], .nils] :: pbox v (A.length + 2)), A ++ (Box.cells [.str n, .iface (vT v) (vX v)] :: Box.cells (.int .i64 2 :: .str n :: prow v (A.length + 2) true) :: pbox v (A.length + 2))] 2 rfl (by kernel_rfl) (by kernel_rfl) (by kernel_rfl) (by kernel_rfl) (by kernel_rfl) (by kernel_rfl) ?_)
  simp only [zW, zX, zD, builtinA, isLeaf, const1, ustrA, simprocAttr, ti9, ti49, ti92, ti162, cf, Tryz.results187]
  refine wpG_invoke _ _ _ _ _ _ _ _ _ _ _ _ _ _ _ _ _ _ ?_
  simp only [zW, zX, zD, builtinA, isLeaf, const1, ustrA, simprocAttr, ti9, ti49, ti92, ti162, cf, Tryz.results187]
  refine meth_invE (met3 (by kernel_rfl) (by kernel_rfl) (by kernel_rfl) (by kernel_rfl) (by kernel_rfl) (by kernel_rfl)) cv rfl ?_
  simp only [zW, zX, zD, builtinA, isLeaf, const1, ustrA, simprocAttr, ti9, ti49, ti92, ti162, cf, Tryz.results187, hpl]
  rw [List.take_of_length_le (Nat.le_of_eq (hpl _))]
  have h := newS_of (A := A) (x := siOf (.al n v)) (w := v) rfl (B0 := [Box.cells [.str n, .iface (vT v) (vX v)], Box.cells (.int .i64 2 :: .str n :: prow v (A.length + 2) true)]) (B1 := []) (n := A.length + 2) rfl
  rw [List.append_nil] at h
  exact ⟨_, rfl, h⟩
set_option maxRecDepth 100000 in
theorem va_plain (n : List UInt8) (v : VT) : PlI (.va n v) := fun A => by
  show ACalls Tryz.prog 204 _ _ _
  have cv : ACalls Tryz.prog ((pickF 210 217 180) v) [vX v] (A ++ [Box.cells [.str n, .iface (vT v) (vX v)], Box.cells [.int .i64 0, .str [], .int .i64 0, .str [], .str [], .nils]]) (fun r A' => r = .agg (prow v (A.length + 2) true) ∧ A' = A ++ (Box.cells [.str n, .iface (vT v) (vX v)] :: Box.cells [.int .i64 0, .str [], .int .i64 0, .str [], .str [], .nils] :: pbox v (A.length + 2))) := by
    have := plainM v (A ++ [Box.cells [.str n, .iface (vT v) (vX v)], Box.cells [.int .i64 0, .str [], .int .i64 0, .str [], .str [], .nils]])
    simpa using this
  have hpl : ∀ n, (prow v n true).length = 4 := fun n => prow_length _ _ _
  rw [viX]
  refine acalls_enterK (cf := cf 9 [0, 1, 2]) foll Tryz.func204 Tryz.ntmps204 (by simp [cf]) ?_
  simp only [Tryz.f204, EnterK_some, zW, zX, zD, builtinA, isLeaf, const1, ustrA, simprocAttr, ti9, ti49, ti92, ti189, cf, Tryz.results204]
  refine .inr (drawE_intro [(false, 0, 1), (false, 0, 1), (false, 0, 0), (false, 0, 0), (true, 0, 0), (false, 1, 1), (true, 1, 1)] [A ++ [Box.cells [.str n, .iface (vT v) (vX v)], Box.cells [.int .i64 0, .str [], .int .i64 0, .str [], .str [], .nils]], A ++ (Box.cells [.str n, .iface (vT v) (vX v)] :: Box.cells [.int .i64 0, .str [], .int .i64 0, .str [], .str [], .nils] :: pbox v (A.length + 2)), A ++ (Box.cells [.str n, .iface (vT v) (vX v)] :: Box.cells (.int .i64 3 :: .str n :: prow v (A.length + 2) true) :: pbox v (A.length + 2))] 2 rfl (by kernel_rfl) (by kernel_rfl) (by kernel_rfl) (by kernel_rfl) (by kernel_rfl) (by kernel_rfl) ?_)
  simp only [zW, zX, zD, builtinA, isLeaf, const1, ustrA, simprocAttr, ti9, ti49, ti92, ti189, cf, Tryz.results204]
  refine wpG_invoke _ _ _ _ _ _ _ _ _ _ _ _ _ _ _ _ _ _ ?_
  simp only [zW, zX, zD, builtinA, isLeaf, const1, ustrA, simprocAttr, ti9, ti49, ti92, ti189, cf, Tryz.results204]
  refine meth_invE (met3 (by kernel_rfl) (by kernel_rfl) (by kernel_rfl) (by kernel_rfl) (by kernel_rfl) (by kernel_rfl)) cv rfl ?_
  simp only [zW, zX, zD, builtinA, isLeaf, const1, ustrA, simprocAttr, ti9, ti49, ti92, ti189, cf, Tryz.results204, hpl]
  rw [List.take_of_length_le (Nat.le_of_eq (hpl _))]
  have h := newS_of (A := A) (x := siOf (.va n v)) (w := v) rfl (B0 := [Box.cells [.str n, .iface (vT v) (vX v)], Box.cells (.int .i64 3 :: .str n :: prow v (A.length + 2) true)]) (B1 := []) (n := A.length + 2) rfl
  rw [List.append_nil] at h
  exact ⟨_, rfl, h⟩
theorem plI : ∀ y, PlI y
  | .ab n => ab_plain n
  | .al n v => al_plain n v
  | .va n v => va_plain n v

set_option maxRecDepth 100000 in
set_option maxHeartbeats 4000000 in
theorem impl_plainItems (ys : List VI) (hl : ys.length ≤ 1000) (A : List Box) : ACalls Tryz.prog 96 [.slice (vRows ys)] A (fun r A' => ∃ j, r = .own j ∧ NewG A (ys.map siOf) j A') := by
  have hl2 : ((vRows ys).length : Int) ≤ 1000 := by rw [vRows_length]; omega
  refine ACalls.grow ?_
  refine acalls_enterK (cf := cf 23 [0, 2, 3, 4, 5, 9, 10, 11, 12]) foll Tryz.func96 Tryz.ntmps96 (by simp [cf]) ?_
  simp only [Tryz.f96, EnterK_some, zW, zX, zD, builtinA, isLeaf, const1, ustrA, simprocAttr, ti3, ti25, ti49, ti63, ti87, cf, Tryz.results96]
  refine ⟨⟨by omega, by omega, by omega⟩, ?_⟩
  refine aloop_intro [3, 9, 10, 11] (fun e A' => ∃ (p : Nat) (rl : List (List AV)) (SL : List Nat) (g : Bool), p ≤ ys.length ∧ e = [(3, .own A.length), (9, .slice (vRows ys)), (10, .int .i64 ys.length), (11, .int .i64 p)] ∧ A'.getD A.length .dead = (bif g then .gr none 6 (rl ++ List.replicate (ys.length - p) zsi) else .row 6 (rl ++ List.replicate (ys.length - p) zsi) 0) ∧
    rl.length = p ∧ OwnG A' ((ys.map siOf).take p) rl SL ∧ SL.Nodup ∧ (∀ i ∈ SL, A.length < i) ∧ A.length < A'.length ∧ ∀ k, k < A.length → A'.getD k .dead = A.getD k .dead) (fun e _ => ys.length - (intOf (Abs.look 11 e)).toNat) ?_ ?_
  · simp only [zW, zX, zD, builtinA, isLeaf, const1, ustrA, simprocAttr, ti3, ti25, ti49, ti63, ti87, cf, Tryz.results96, vRows_length]
    refine ⟨0, [], [], false, by omega, rfl, ?_, rfl, by simp [OwnG], by simp, by simp, by simp, fun k hk => Abs.getD_append_left hk⟩
    rfl
  · rintro e A' ⟨p, rl, SL, g, hp, rfl, hb, hrl, hO, hN, hlo, hlt, hfr⟩
    by_cases hp2 : p < ys.length
    · have d2 : decide ((p : Int) < (ys.length : Int)) = true := by simp; omega
      have he := vRows_getD hp2
      have hsi : ((ys.map siOf).take p ++ [siOf (ys.getD p vi0)]) = (ys.map siOf).take (p + 1) := by
        rw [List.take_add_one]; simp [List.getD, hp2]
      generalize hyv : ys.getD p vi0 = y at *
      rw [vRow] at he
      simp only [zW, zX, zD, builtinA, isLeaf, const1, ustrA, simprocAttr, ti3, ti25, ti49, ti63, ti87, cf, Tryz.results96, vRows_length, d2, he]
      refine ⟨⟨by omega, by omega⟩, ?_⟩
      refine wpO_invoke _ _ _ _ _ _ _ _ _ _ _ _ _ _ _ _ ?_
      simp only [zW, zX, zD, builtinA, isLeaf, const1, ustrA, simprocAttr, ti3, ti25, ti49, ti63, ti87, cf, Tryz.results96]
      refine methI_invK (metI3 (by kernel_rfl) (by kernel_rfl) (by kernel_rfl) (by kernel_rfl) (by kernel_rfl) (by kernel_rfl)) (plI y _) rfl (fun _ => rfl) ?_
      rintro r A3 ⟨cs, rfl, hle, hf3, v, S, rfl, hK, hND, hge, hv⟩
      have hi1 : IntKind.i64.wrap ((p : Int) + 1) = ((p + 1 : Nat) : Int) := by rw [wrap64 (by omega) (by omega)]; rfl
      have hb3 : A3.getD A.length .dead = (bif g then .gr none 6 (rl ++ List.replicate (ys.length - p) zsi) else .row 6 (rl ++ List.replicate (ys.length - p) zsi) 0) := by rw [hf3 _ hlt]; exact hb
      have hz : ∀ v, (rl ++ List.replicate (ys.length - p) zsi).set p (sRow (siOf y) v) = (rl ++ [sRow (siOf y) v]) ++ List.replicate (ys.length - (p + 1)) zsi := fun v => by
        rw [show ys.length - p = (ys.length - (p + 1)) + 1 by omega, List.replicate_succ, List.set_append_right _ _ (by omega), hrl, Nat.sub_self]
        simp
      have hlr : (rl ++ List.replicate (ys.length - p) zsi).length = ys.length := by simp; omega
      have hdz : List.drop 6 ((rl ++ List.replicate (ys.length - p) zsi).getD p []) = [] := by
        rw [Abs.getD_append_right (by omega), hrl, Nat.sub_self, getD_repl (by omega)]; rfl
      have hpr : (0 : Int) ≤ (p : Int) ∧ (p : Int) < ((ys.length : Nat) : Int) := ⟨by omega, by omega⟩
      have fin : ∀ (g' : Bool) (v : AV) (Z : Box), OwnK A3 (siOf y).typ.kids v S → Z = (bif g' then Box.gr none 6 ((rl ++ [sRow (siOf y) v]) ++ List.replicate (ys.length - (p + 1)) zsi) else .row 6 ((rl ++ [sRow (siOf y) v]) ++ List.replicate (ys.length - (p + 1)) zsi) 0) → ∃ (p' : Nat) (rl' : List (List AV)) (SL' : List Nat) (g' : Bool), p' ≤ ys.length ∧ [(3, AV.own A.length), (9, .slice (vRows ys)), (10, .int .i64 ys.length), (11, .int .i64 ((p + 1 : Nat) : Int))] = [(3, .own A.length), (9, .slice (vRows ys)), (10, .int .i64 ys.length), (11, .int .i64 p')] ∧ (A3.set A.length Z).getD A.length .dead = (bif g' then .gr none 6 (rl' ++ List.replicate (ys.length - p') zsi) else .row 6 (rl' ++ List.replicate (ys.length - p') zsi) 0) ∧
          rl'.length = p' ∧ OwnG (A3.set A.length Z) ((ys.map siOf).take p') rl' SL' ∧ SL'.Nodup ∧ (∀ i ∈ SL', A.length < i) ∧ A.length < (A3.set A.length Z).length ∧ ∀ k, k < A.length → (A3.set A.length Z).getD k .dead = A.getD k .dead := fun g' v Z hK hZ => by
        have hlt3 : A.length < A3.length := by omega
        have low := hO.low
        refine ⟨p + 1, rl ++ [sRow (siOf y) v], SL ++ S, g', by omega, rfl, ?_, by simp [hrl], ?_, ?_, ?_, by simpa using hlt3, fun k hk => ?_⟩
        · rw [getD_set_self hlt3]; exact hZ
        · rw [← hsi]
          refine (hO.frame fun i hi => ?_).append ?_
          · have h1 := hlo i hi
            have h2 := low i hi
            rw [getD_set_ne' (by omega), hf3 i h2]
          · rw [OwnG]
            refine ⟨v, [], S, [], rfl, by simp, hK.frame fun i hi => ?_, by simp [OwnG]⟩
            have := hge i hi
            rw [getD_set_ne' (by omega)]
        · refine List.nodup_append.2 ⟨hN, hND, fun x hx y hy => ?_⟩
          have := low x hx
          have := hge y hy
          omega
        · intro i hi
          rcases List.mem_append.1 hi with hi | hi
          · exact hlo i hi
          · have := hge i hi; omega
        · rw [getD_set_ne' (by omega), hf3 k (by omega), hfr k hk]
      have lf : ∀ w ∈ sRow (siOf y) (.slice []), isLeaf w = true := by simp [sRow, isLeaf]
      have el : ∀ w ∈ sRow (siOf y) (.slice []), isElem w = true := by simp [sRow, isElem, isLeaf]
      have el2 : ∀ i, ∀ w ∈ sRow (siOf y) (.own i), isElem w = true := by simp [sRow, isElem, isLeaf]
      have mz : ∀ {P : Prop}, P → P ∧ ys.length - (intOf (AV.int .i64 ((p + 1 : Nat) : Int))).toNat < ys.length - (intOf (AV.int .i64 (p : Int))).toNat := fun h => ⟨h, by simp only [intOf]; omega⟩
      rcases hv with rfl | ⟨i, rfl⟩
      · have hK2 : OwnK A3 (siOf y).typ.kids (.slice []) S := by
          rcases hK with ⟨_, h1, h2⟩ | ⟨h0, _⟩ | ⟨i, _, _, h0, _⟩
          · exact .inr (.inl ⟨rfl, h1, h2⟩)
          · cases h0
          · cases h0
        have fin2 := fun g' Z => fin g' (.slice []) Z hK2
        have hz2 := hz (.slice [])
        clear fin hz
        simp only [sRow] at hz2 fin2 lf el ⊢
        cases g with
        | false =>
          simp only [cond_false] at hb3
          simp only [zW, zX, zD, builtinA, isLeaf, const1, ustrA, simprocAttr, ti3, ti25, ti49, ti63, ti87, cf, Tryz.results96, hb3, hlr, hz2, hdz, hi1, LoopK_eq]
          exact ⟨hpr, ⟨by omega, by omega, fun w hw => lf w hw⟩, mz (by simpa only [cond_false, cond_true, List.append_assoc, List.cons_append, List.nil_append, List.length_set] using fin2 false _ rfl)⟩
        | true =>
          simp only [cond_true] at hb3
          simp only [zW, zX, zD, builtinA, isLeaf, const1, ustrA, simprocAttr, ti3, ti25, ti49, ti63, ti87, cf, Tryz.results96, hb3, hlr, hz2, hdz, hi1, LoopK_eq]
          exact ⟨hpr, ⟨by omega, fun w hw => el w hw⟩, mz (by simpa only [cond_false, cond_true, List.append_assoc, List.cons_append, List.nil_append, List.length_set] using fin2 true _ rfl)⟩
      · obtain ⟨rws, hg⟩ : ∃ rws, A3.getD i .dead = .gr none 4 rws := by
          rcases hK with ⟨h0, _⟩ | ⟨h0, _⟩ | ⟨i', rws, _, h0, _, hg, _⟩
          · cases h0
          · cases h0
          · cases h0; exact ⟨rws, hg⟩
        have fin2 := fun g' Z => fin g' (.own i) Z hK
        have hz2 := hz (.own i)
        clear fin hz
        simp only [sRow] at hz2 fin2 el2 ⊢
        cases g with
        | false =>
          simp only [cond_false] at hb3
          simp only [zW, zX, zD, builtinA, isLeaf, const1, ustrA, simprocAttr, ti3, ti25, ti49, ti63, ti87, cf, Tryz.results96, hb3, hg, hlr, hz2, hdz, hi1, LoopK_eq]
          exact ⟨hpr, ⟨by omega, fun w hw => el2 i w hw⟩, mz (by simpa only [cond_false, cond_true, List.append_assoc, List.cons_append, List.nil_append, List.length_set] using fin2 true _ rfl)⟩
        | true =>
          simp only [cond_true] at hb3
          simp only [zW, zX, zD, builtinA, isLeaf, const1, ustrA, simprocAttr, ti3, ti25, ti49, ti63, ti87, cf, Tryz.results96, hb3, hg, hlr, hz2, hdz, hi1, LoopK_eq]
          exact ⟨hpr, ⟨by omega, fun w hw => el2 i w hw⟩, mz (by simpa only [cond_false, cond_true, List.append_assoc, List.cons_append, List.nil_append, List.length_set] using fin2 true _ rfl)⟩
    · have d2 : decide ((p : Int) < (ys.length : Int)) = false := by simp; omega
      have e : p = ys.length := by omega
      subst e
      simp only [zW, zX, zD, builtinA, isLeaf, const1, ustrA, simprocAttr, ti3, ti25, ti49, ti63, ti87, cf, Tryz.results96, d2]
      rw [List.take_of_length_le (by simp)] at hO
      have low := hO.low
      have hnd : (A.length :: SL).Nodup := List.nodup_cons.2 ⟨fun h => by have := hlo _ h; omega, hN⟩
      have hge : ∀ i ∈ A.length :: SL, A.length ≤ i := fun i hi => by
        rcases List.mem_cons.1 hi with rfl | hi
        · exact Nat.le_refl _
        · have := hlo i hi; omega
      have e0 : rl ++ List.replicate (ys.length - ys.length) zsi = rl := by simp
      rw [e0] at hb
      cases g with
      | false => exact .inr ⟨A.length, 6, rl, hb, A.length, rfl, by simp; omega, fun k hk => by rw [getD_set_ne' (by omega)]; exact hfr k hk, rl, SL, getD_set_self hlt, hO.frame fun i hi => by have := hlo i hi; rw [getD_set_ne' (by omega)], hnd, hge⟩
      | true => exact .inl ⟨A.length, rfl, by omega, hfr, rl, SL, hb, hO, hnd, hge⟩
end Go.Proofs.YtkajklfohjcofaaGreatDoor

/- What NormalSig and the like hand back: a list of items that is new memory. -/
set_option linter.unusedVariables false
set_option linter.unusedSimpArgs false
namespace Go.Proofs.YtkajklfohjcofaaGreatDoor
open Go.Abs

theorem OwnK.free {A : List Box} {ks : List Ty} {v : AV} {S : List Nat} (h : OwnK A ks v S) : ifree v = true ∧ ∀ i ∈ S, ifreeB (A.getD i .dead) = true := by
  have h2 := OwnT.free (ownT_mk.2 ⟨v, rfl, h⟩ : OwnT A (.mk 0 [] [] ks) _ S)
  simpa [ifrees, ifree] using h2
theorem OwnG.free {A : List Box} : ∀ {xs : List SigI} {rows : List (List AV)} {S : List Nat}, OwnG A xs rows S → rows.all ifrees = true ∧ ∀ i ∈ S, ifreeB (A.getD i .dead) = true
  | [], rows, S, h => by rw [OwnG] at h; rw [h.1, h.2]; exact ⟨rfl, by simp⟩
  | t :: ks, rows, S, h => by
    rw [OwnG] at h
    obtain ⟨v, rows', S1, S2, rfl, rfl, h3, h4⟩ := h
    have a := h3.free
    have b := OwnG.free h4
    refine ⟨by rw [List.all_cons, b.1]; simp [sRow, ifrees, ifree, a.1], fun j hj => ?_⟩
    rcases List.mem_append.1 hj with hj | hj
    · exact a.2 j hj
    · exact b.2 j hj
theorem OwnI.free {A : List Box} {xs : List SigI} {v : AV} {S : List Nat} (h : OwnI A xs v S) : ifree v = true ∧ ∀ i ∈ S, ifreeB (A.getD i .dead) = true := by
  rcases h with ⟨rfl, _, rfl⟩ | ⟨i, rows, S', rfl, rfl, h3, h4⟩
  · exact ⟨rfl, by simp⟩
  · refine ⟨rfl, fun j hj => ?_⟩
    have h5 := h4.free
    rcases List.mem_cons.1 hj with rfl | hj
    · rw [h3]; exact h5.1
    · exact h5.2 j hj

/-- what is handed back, in new memory -/
def SgOut (A : List Box) (xs : List SigI) (ok : Bool) (r : AV) (A' : List Box) : Prop :=
  ∃ v S, r = .tuple [v, .bool ok] ∧ OwnI A' xs v S ∧ S.Nodup ∧ (∀ i ∈ S, A.length ≤ i) ∧ A.length ≤ A'.length ∧ ∀ i, i < A.length → A'.getD i .dead = A.getD i .dead
def SgNew (A : List Box) (xs : List SigI) (ok : Bool) (r : AV) (A' : List Box) : Prop :=
  ∃ B v S, A' = A ++ B ∧ (∀ b ∈ B, ifreeB b = true) ∧ r = .tuple [v, .bool ok] ∧ ifree v = true ∧ OwnI A' xs v S ∧ S.Nodup ∧ ∀ i ∈ S, A.length ≤ i ∧ i < A'.length
theorem sgNew_of {A A' : List Box} {xs : List SigI} {ok : Bool} {r : AV} (h : SgOut A xs ok r A') : ∃ keep, SgNew A xs ok r (only keep A') := by
  obtain ⟨v, S, rfl, hT, hN, hge, hl, hf⟩ := h
  refine ⟨fun k => decide (k < A.length) || decide (k ∈ S), ?_⟩
  have hfree := hT.free
  have hlow := hT.low
  generalize hkp : (fun k => decide (k < A.length) || decide (k ∈ S)) = keep
  have k1 : ∀ k, k < A.length → keep k = true := fun k hk => by rw [← hkp]; simp [hk]
  have k2 : ∀ k, k ∈ S → keep k = true := fun k hk => by rw [← hkp]; simp [hk]
  have k3 : ∀ k, A.length ≤ k → keep k = true → k ∈ S := fun k h1 h2 => by
    rw [← hkp] at h2
    simp at h2
    rcases h2 with h2 | h2
    · omega
    · exact h2
  have e := split_front (A := A) (A' := only keep A') (by rw [only_length]; exact hl) (fun k hk => by rw [only_getD, if_pos (k1 k hk)]; exact hf k hk)
  refine ⟨_, v, S, e, fun b hb => ?_, rfl, hfree.1, hT.frame fun i hi => by rw [only_getD, if_pos (k2 i hi)], hN, fun i hi => ⟨hge i hi, by rw [only_length]; exact hlow i hi⟩⟩
  obtain ⟨i, hi, rfl⟩ := List.mem_iff_getElem.1 hb
  rw [List.getElem_drop]
  have hi2 : A.length + i < (only keep A').length := by simp at hi; omega
  have e2 : (only keep A')[A.length + i] = (only keep A').getD (A.length + i) .dead := by simp [List.getD, hi2]
  rw [e2, only_getD]
  split
  · rename_i hk; exact hfree.2 _ (k3 _ (by omega) hk)
  · rfl
theorem sg_call {f : FuncId} {args : List AV} {xs : List SigI} {ok : Bool} (h : ∀ A, ACalls Tryz.prog f args A (fun r A' => SgOut A xs ok r A')) (A : List Box) : ACalls Tryz.prog f args A (SgNew A xs ok) :=
  ACalls.only ((h A).mono fun r A' h => sgNew_of h)
set_option maxRecDepth 100000 in
theorem impl_plainSig (ys : List VI) (hl : ys.length ≤ 1000) (A : List Box) : ACalls Tryz.prog 57 [.slice (vRows ys)] A (fun r A' => ∃ j, r = .own j ∧ NewG A (ys.map siOf) j A') := by
  refine acalls_enterK (cf := cf 5 [0, 2]) foll Tryz.func57 Tryz.ntmps57 (by simp [cf]) ?_
  simp only [Tryz.f57, EnterK_some, zW, zX, zD, builtinA, isLeaf, const1, ustrA, simprocAttr, ca96, cf, Tryz.results57]
  refine callO_intro (impl_plainItems ys hl _) ?_
  rintro r A' ⟨j, rfl, h⟩
  simp only [zW, zX, zD, builtinA, isLeaf, const1, ustrA, simprocAttr, ca96, cf, Tryz.results57]
  exact ⟨j, rfl, h⟩
theorem rdN_len {s : List SigI} {zs : List VI} (h : RdN s (some zs)) : zs.length ≤ 8 := by
  obtain ⟨ys, h8, hr, _, hn⟩ := h
  have := normL_len hn
  have := hr.1
  omega
def nrX : Option (List VI) → List SigI
  | some zs => zs.map siOf
  | none => []
theorem itemsX_ok {s : List SigI} (hs : ∀ x ∈ s, x.Ok) {zs : List VI} (h8 : zs.length ≤ 8) (hv : ∀ i, i < zs.length → VOk (meanI (zs.getD i vi0)) ∧ (viK (zs.getD i vi0)).2.length < 2 ^ 63) : (zs.map siOf).length ≤ 8 ∧ (∀ x ∈ zs.map siOf, x.Ok) ∧ totG (zs.map siOf) ≤ 1600 := by
  have key : ∀ x ∈ zs.map siOf, x.Ok ∧ counts x.typ.kids ≤ 64 := fun x hx => by
    obtain ⟨y, hy, rfl⟩ := List.mem_map.1 hx
    obtain ⟨k, hk, rfl⟩ := List.mem_iff_getElem.1 hy
    have h := hv k hk
    have e : zs.getD k vi0 = zs[k] := by simp [List.getD, hk]
    rw [e] at h
    refine ⟨(siOf_ok h.1 h.2).1, ?_⟩
    have hc := h.1.cnt
    generalize zs[k] = y at *
    have hk : ∀ v, counts (toTy v).kids + 1 = cnt v := fun v => by
      rw [← count_toTy]; cases toTy v; simp [count, Ty.kids]; omega
    cases y with
    | ab n => simp [siOf, ty0, Ty.kids, counts]
    | al n v => have := hk v; simp only [siOf, meanI] at *; omega
    | va n v => have := hk v; simp only [siOf, meanI] at *; omega
  refine ⟨by simpa using h8, fun x hx => (key x hx).1, ?_⟩
  have hb : ∀ l : List SigI, (∀ x ∈ l, counts x.typ.kids ≤ 64) → totG l ≤ 197 * l.length := by
    intro l
    induction l with
    | nil => simp [totG]
    | cons x l ih =>
      intro h
      have := h x (by simp)
      have := ih fun y hy => h y (by simp [hy])
      rw [totG, List.length_cons]; omega
  have := hb _ fun x hx => (key x hx).2
  simp only [List.length_map] at this
  omega
set_option maxRecDepth 100000 in
theorem impl_NormalSig (s : List SigI) (hs : s.length ≤ 1048576) (ho : ∀ x ∈ s, x.Ok ∧ sz x.typ ≤ 1048576) (A : List Box) : ACalls Tryz.prog 29 [.slice (sEs s)] A (fun r A' => ∃ o, RdN s o ∧ SgOut A (nrX o) o.isSome r A') := by
  refine acalls_enterK (cf := cf 15 [0, 2, 3, 4, 5, 12]) foll Tryz.func29 Tryz.ntmps29 (by simp [cf]) ?_
  simp only [Tryz.f29, EnterK_some, zW, zX, zD, builtinA, isLeaf, const1, ustrA, simprocAttr, ca57, ca62, cf, Tryz.results29]
  refine callO_intro (impl_readNormal s hs ho _) ?_
  rintro r A1 ⟨B, rfl, ⟨zs, j, hrd, rfl, hj, hg⟩ | ⟨hrd, rfl⟩⟩
  · have hzl := (rdN_len hrd)
    simp only [zW, zX, zD, builtinA, isLeaf, const1, ustrA, simprocAttr, ca57, ca62, cf, Tryz.results29]
    have h1 : (A ++ B).getD (A.length + j) .dead = .row 1 (vRows zs) 0 := by
      rw [Abs.getD_append_right (by omega), show A.length + j - A.length = j by omega]; exact hg
    have hfz : frzs [.own (A.length + j)] (A ++ B) = some ([.slice (vRows zs)], A ++ B.set j (.row 1 (vRows zs) (vRows zs).length)) := by
      have h2 : (A ++ B).set (A.length + j) (.row 1 (vRows zs) (vRows zs).length) = A ++ B.set j (.row 1 (vRows zs) (vRows zs).length) := by simp [List.set_append]
      simp only [frzs, frzC, frz1, h1, h2]
    refine callK_intro hfz (impl_plainSig zs (by omega) _) ?_ rfl
    rintro r A' ⟨i, rfl, hle, hf, rows, S, hgi, hO, hN, hge⟩
    simp only [zW, zX, zD, builtinA, isLeaf, const1, ustrA, simprocAttr, ca57, ca62, cf, Tryz.results29]
    simp only [List.length_append, List.length_set] at hle hge
    exact ⟨some zs, hrd, _, i :: S, rfl, .inr ⟨i, rows, S, rfl, rfl, hgi, hO⟩, hN, fun x hx => by have := hge x hx; omega, by omega, fun x hx => by rw [hf x (by simp; omega), Abs.getD_append_left hx]⟩
  · simp only [zW, zX, zD, builtinA, isLeaf, const1, ustrA, simprocAttr, ca57, ca62, cf, Tryz.results29]
    exact ⟨none, hrd, _, [], rfl, .inl ⟨rfl, rfl, rfl⟩, by simp, by simp, by simp, fun i hi => Abs.getD_append_left hi⟩
end Go.Proofs.YtkajklfohjcofaaGreatDoor

/- Strengthened signatures, by the program and by the model. -/
set_option linter.unusedVariables false
set_option linter.unusedSimpArgs false
namespace Go.Proofs.YtkajklfohjcofaaGreatDoor
open Go.Abs

def strI (mod : List UInt8) : VI → VI
  | .ab n => .al n (.nm mod n)
  | .al n v => .al n v
  | .va n v => .va n v
theorem viK_str (mod : List UInt8) (y : VI) : viK (strI mod y) = viK y := by cases y <;> rfl
/-- what strengthening answers -/
def RdS (s : List SigI) (mod : List UInt8) : Option (List VI) → Prop
  | some zs => ∃ ys, s.length ≤ 8 ∧ ReadsTo s ys ∧ ordB ys = true ∧ moduleB mod = true ∧ zs = ys.map (strI mod)
  | none => sigB s = false ∨ moduleB mod = false
theorem moduleB_ne {m : List UInt8} (h : moduleB m = true) : m ≠ [] := by
  rintro rfl; revert h; decide
theorem strI_getD (mod : List UInt8) {ys : List VI} {i : Nat} (h : i < ys.length) : (ys.map (strI mod)).getD i vi0 = strI mod (ys.getD i vi0) := by
  simp [List.getD, h]
theorem strI_keys (mod : List UInt8) (ys : List VI) (i : Nat) : ((ys.map (strI mod)).take i).map viK = (ys.take i).map viK := by
  rw [← List.map_take, List.map_map]
  congr 1
  funext y
  exact viK_str mod y
theorem ordB_str {mod : List UInt8} {ys : List VI} (hm : moduleB mod = true) (ho : ordB ys = true) : ordB (ys.map (strI mod)) = true := by
  have ho' := ho
  unfold ordB at ho' ⊢
  rw [List.all_eq_true] at ho' ⊢
  intro i hi
  rw [List.mem_range, List.length_map] at hi
  have hs := ho' i (List.mem_range.mpr hi)
  rw [strI_getD mod hi]
  simp only [stepB, Bool.and_eq_true, viK_str, strI_keys] at hs ⊢
  refine ⟨?_, hs.2⟩
  cases hy : ys.getD i vi0 with
  | ab n => simp [strI, allI, allV, okN, moduleB_ne hm]
  | al n v => rw [hy] at hs; exact hs.1
  | va n v => rw [hy] at hs; exact hs.1
theorem str_ok {s : List SigI} {ys : List VI} {mod : List UInt8} (hm : moduleB mod = true) (hr : ReadsTo s ys) {i : Nat} (hi : i < ys.length) : VOk (meanI (strI mod (ys.getD i vi0))) := by
  have h1 := hr.2 i (by rw [← hr.1]; exact hi)
  have h2 := mean_ok h1.1 h1.2
  have hn : localB (viK (ys.getD i vi0)).2 = true := by rw [← siOf_name, ← itemOf_si h1.2]; exact h1.1
  cases hy : ys.getD i vi0 with
  | ab n =>
    rw [hy] at hn
    refine ⟨?_, by simp [strI, meanI, dep], by simp [strI, meanI, cnt]⟩
    simp only [strI, meanI, okV, nmB, hm, Bool.or_true, Bool.true_and]
    exact hn
  | al n v => rw [hy] at h2; exact h2
  | va n v => rw [hy] at h2; exact h2
theorem str_reads {s : List SigI} {ys : List VI} {mod : List UInt8} (hm : moduleB mod = true) (hr : ReadsTo s ys) : ReadsTo ((ys.map (strI mod)).map siOf) (ys.map (strI mod)) := by
  refine ⟨by simp, fun i hi => ?_⟩
  have hi' : i < ys.length := by simpa using hi
  have e : ((ys.map (strI mod)).map siOf).getD i si0 = siOf ((ys.map (strI mod)).getD i vi0) := by simp [List.getD, hi']
  have h1 := hr.2 i (by rw [← hr.1]; exact hi')
  rw [e, strI_getD mod hi']
  refine ⟨?_, itemOf_of (str_ok hm hr hi')⟩
  rw [siOf_name, viK_str, ← siOf_name, ← itemOf_si h1.2]
  exact h1.1
theorem rdS_ex (s : List SigI) (mod : List UInt8) : ∃ o, RdS s mod o := by
  cases hb : sigB s with
  | false => exact ⟨none, .inl hb⟩
  | true =>
    cases hm : moduleB mod with
    | false => exact ⟨none, .inr hm⟩
    | true =>
      obtain ⟨ys, h8, hr, hord⟩ := sigB_yes hb
      exact ⟨some _, ys, h8, hr, hord, hm, rfl⟩
theorem rdS_eq {s : List SigI} {mod : List UInt8} {o o' : Option (List VI)} (h : RdS s mod o) (h' : RdS s mod o') : o = o' := by
  have key : ∀ {zs}, RdS s mod (some zs) → ¬ RdS s mod none := by
    rintro zs ⟨ys, h8, hr, ho, hm, _⟩ (h | h)
    · rw [sigB_reads h8 hr, ho] at h; cases h
    · rw [hm] at h; cases h
  cases o with
  | none =>
    cases o' with
    | none => rfl
    | some zs => exact absurd h (key h')
  | some zs =>
    cases o' with
    | none => exact absurd h' (key h)
    | some zs' =>
      obtain ⟨ys, _, hr, _, _, rfl⟩ := h
      obtain ⟨ys', _, hr', _, _, rfl⟩ := h'
      rw [readsTo_one hr hr']
theorem strX_ok {s : List SigI} {mod : List UInt8} (hs : ∀ x ∈ s, x.Ok) {o : Option (List VI)} (h : RdS s mod o) : (nrX o).length ≤ 8 ∧ (∀ x ∈ nrX o, x.Ok) ∧ totG (nrX o) ≤ 1600 := by
  cases o with
  | none => exact ⟨by simp [nrX], by simp [nrX], by simp [nrX, totG]⟩
  | some zs =>
    obtain ⟨ys, h8, hr, hord, hm, rfl⟩ := h
    refine itemsX_ok hs (by simp [hr.1]; exact h8) fun i hi => ?_
    rw [List.length_map] at hi
    rw [strI_getD mod hi]
    refine ⟨str_ok hm hr hi, ?_⟩
    have h1 := hr.2 i (by rw [← hr.1]; exact hi)
    rw [viK_str, ← siOf_name, ← itemOf_si h1.2]
    exact (hs _ (si_mem (by rw [← hr.1]; exact hi))).1

/-! ### the program -/
set_option maxRecDepth 100000 in
theorem impl_readSigK (s : List SigI) (hs : s.length ≤ 1048576) (ho : ∀ x ∈ s, x.Ok ∧ sz x.typ ≤ 1048576) (A : List Box) : ACalls Tryz.prog 55 [.slice (sEs s)] A (fun r A' => ∃ B, A' = A ++ B ∧
    ((∃ ys j, s.length ≤ 8 ∧ ReadsTo s ys ∧ r = .tuple [.own (A.length + j), .bool (ordB ys)] ∧ j < B.length ∧ B.getD j .dead = .row 1 (vRows ys) 0) ∨ ((8 < s.length ∨ ∃ x ∈ s, itemOk x = false) ∧ r = .tuple [.nils, .bool false]))) := by
  have hre := impl_readEach s hs ho A
  refine acalls_enterK (cf := cf 17 [0, 2, 3, 4, 5]) foll Tryz.func55 Tryz.ntmps55 (by simp [cf]) ?_
  simp only [Tryz.f55, EnterK_some, zW, zX, zD, builtinA, isLeaf, const1, ustrA, simprocAttr, ca91, ca93, cf, Tryz.results55]
  refine callO_intro hre ?_
  rintro r A' ⟨B, rfl, ⟨ys, j, h8, hrt, rfl, hj, hg⟩ | ⟨hbad, rfl⟩⟩
  · have hg2 : (A ++ B).getD (A.length + j) .dead = .row 1 (vRows ys) 0 := by rw [Abs.getD_append_right (by omega), Nat.add_sub_cancel_left]; exact hg
    simp only [zW, zX, zD, builtinA, isLeaf, const1, ustrA, simprocAttr, ca91, ca93, cf, Tryz.results55]
    refine callO_intro (borrowI (.cons (.row (A.length + j) 1 0 (vRows ys) (vRows ys) hg2 rfl (vRows_leaf ys) (vRows_view ys _)) .nil) rfl (fun A => impl_inOrder ys (by have := hrt.1; omega) A)) ?_
    rintro r A' ⟨rfl, rfl⟩
    simp only [zW, zX, zD, builtinA, isLeaf, const1, ustrA, simprocAttr, ca91, ca93, cf, Tryz.results55]
    exact ⟨B, rfl, .inl ⟨ys, j, h8, hrt, rfl, hj, hg⟩⟩
  · simp only [zW, zX, zD, builtinA, isLeaf, const1, ustrA, simprocAttr, ca91, ca93, cf, Tryz.results55]
    exact ⟨B, rfl, .inr hbad⟩
set_option maxRecDepth 100000 in
theorem impl_cloneSig (ys : List VI) (i : Nat) (A : List Box) (hb : A.getD i .dead = .row 1 (vRows ys) 0) (hi : i < A.length) (hl : ys.length ≤ 1000) : ACalls Tryz.prog 94 [.own i] A (fun r A' => ∃ B j, A' = A ++ B ∧ r = .own (A.length + j) ∧ j < B.length ∧ B.getD j .dead = .row 1 (vRows ys) 0) := by
  have hb2 : (A ++ [Box.row 1 [] 0]).getD i .dead = .row 1 (vRows ys) 0 := by rw [Abs.getD_append_left hi]; exact hb
  refine acalls_enterK (cf := cf 8 [0, 2, 4]) foll Tryz.func94 Tryz.ntmps94 (by simp [cf]) ?_
  simp only [Tryz.f94, EnterK_some, zW, zX, zD, builtinA, isLeaf, const1, ustrA, simprocAttr, ti64, ti87, cf, Tryz.results94]
  simp only [zW, zX, zD, builtinA, isLeaf, const1, ustrA, simprocAttr, ti64, ti87, cf, Tryz.results94, hb2, vRows_length]
  exact ⟨⟨fun r hr => (vRows_leaf ys r hr).1, by omega⟩, [.dead, .row 1 (vRows ys) 0], 1, rfl, rfl, by simp, rfl⟩

theorem vRows_set {ys zs : List VI} {i : Nat} (y : VI) (hz : zs.length = i) (hi : i < ys.length) : (vRows (zs ++ ys.drop i)).set i (vRow y) = vRows ((zs ++ [y]) ++ ys.drop (i + 1)) := by
  have : ys.drop i = ys.getD i vi0 :: ys.drop (i + 1) := vi_drop hi
  rw [this]
  simp only [vRows, List.map_append, List.map_cons]
  rw [List.set_append_right _ _ (by simp; omega)]
  simp [hz]
theorem vRows_drop (zs : List VI) (p : Nat) : List.drop 1 ((vRows zs).getD p []) = [] := by
  by_cases h : p < zs.length
  · rw [vRows_getD h]; rfl
  · have : (vRows zs)[p]? = none := by simp [vRows]; omega
    simp [List.getD, this]
set_option maxRecDepth 100000 in
theorem impl_strengthen (mod : List UInt8) (ys : List VI) (i : Nat) (A : List Box) (hb : A.getD i .dead = .row 1 (vRows ys) 0) (hi : i < A.length) (hl : ys.length ≤ 1000) : ACalls Tryz.prog 74 [.own i, .str mod] A (fun r A' => ∃ B j, A' = A ++ B ∧ r = .own (A.length + j) ∧ j < B.length ∧ B.getD j .dead = .row 1 (vRows (ys.map (strI mod))) 0) := by
  refine acalls_enterK (cf := cf 39 [0, 1, 4, 5, 6, 7, 8, 9, 12, 13, 14, 15, 24]) foll Tryz.func74 Tryz.ntmps74 (by simp [cf]) ?_
  simp only [Tryz.f74, EnterK_some, zW, zX, zD, builtinA, isLeaf, const1, ustrA, simprocAttr, ti3, ti9, ti64, ti87, ti89, ti154, ti162, ca94, za89, cf, Tryz.results74]
  refine callO_intro (impl_cloneSig ys i A hb hi hl) ?_
  rintro r A1 ⟨B, j, rfl, rfl, hj, hg⟩
  have hb2 : ∀ B, (A ++ B).getD i .dead = .row 1 (vRows ys) 0 := fun B => by rw [Abs.getD_append_left hi]; exact hb
  simp only [zW, zX, zD, builtinA, isLeaf, const1, ustrA, simprocAttr, ti3, ti9, ti64, ti87, ti89, ti154, ti162, ca94, za89, cf, Tryz.results74, hb2, vRows_length]
  refine aloop_intro [1, 5, 12, 13, 14] (fun e A' => ∃ p B, p ≤ ys.length ∧ e = [(1, .str mod), (5, .own (A.length + j)), (12, .own i), (13, .int .i64 ys.length), (14, .int .i64 p)] ∧ A' = A ++ B ∧ j < B.length ∧ B.getD j .dead = .row 1 (vRows ((ys.take p).map (strI mod) ++ ys.drop p)) 0) (fun e _ => ys.length - (intOf (Abs.look 14 e)).toNat) ?_ ?_
  · simp only [zW, zX, zD, builtinA, isLeaf, const1, ustrA, simprocAttr, ti3, ti9, ti64, ti87, ti89, ti154, ti162, ca94, za89, cf, Tryz.results74]
    exact ⟨0, B, by omega, rfl, rfl, hj, by simpa using hg⟩
  · rintro e A' ⟨p, B, hp, rfl, rfl, hj, hg⟩
    by_cases hp2 : p < ys.length
    · have d2 : decide ((p : Int) < (ys.length : Int)) = true := by simp; omega
      have he := vRows_getD hp2
      have hi1 : IntKind.i64.wrap ((p : Int) + 1) = ((p + 1 : Nat) : Int) := by rw [wrap64 (by omega) (by omega)]; rfl
      have pp : (0 : Int) ≤ (p : Int) ∧ (p : Int) < (ys.length : Int) := ⟨by omega, by omega⟩
      have hzl : ((ys.take p).map (strI mod)).length = p := by simp; omega
      have hst := fun y => vRows_set y hzl hp2
      have hrl : (vRows ((ys.take p).map (strI mod) ++ ys.drop p)).length = ys.length := by rw [vRows_length]; simp; omega
      have htk : (ys.take (p + 1)).map (strI mod) = (ys.take p).map (strI mod) ++ [strI mod (ys.getD p vi0)] := by
        rw [List.take_add_one, List.map_append]; simp [List.getD, hp2]
      have hdr : ys.drop p = ys.getD p vi0 :: ys.drop (p + 1) := vi_drop hp2
      generalize ys.getD p vi0 = y at *
      rw [vRow] at he
      cases y with
      | ab n =>
        have hst2 := hst (.al n (.nm mod n))
        simp only [vRow, viT, viX, vT, vX] at he hst2
        simp only [zW, zX, zD, builtinA, isLeaf, const1, ustrA, simprocAttr, ti3, ti9, ti64, ti87, ti89, ti154, ti162, ca94, za89, cf, Tryz.results74, hb2, vRows_length, d2, he]
        refine ⟨pp, ?_⟩
        have hgB : ∀ X, (B ++ X).getD j .dead = .row 1 (vRows ((ys.take p).map (strI mod) ++ ys.drop p)) 0 := fun X => by rw [Abs.getD_append_left hj]; exact hg
        have hst3 : ((B ++ [Box.cells [.str n]]).set j (.row 1 (vRows ((ys.take p).map (strI mod) ++ [VI.al n (VT.nm mod n)] ++ ys.drop (p + 1))) 0)).getD j .dead = .row 1 (vRows ((ys.take (p + 1)).map (strI mod) ++ ys.drop (p + 1))) 0 := by
          rw [getD_set_self (by simp; omega), htk]; rfl
        have hjl : j < B.length + 1 := by omega
        have hdz := vRows_drop ((ys.take p).map (strI mod) ++ ys.drop p) p
        simp only [zW, zX, zD, builtinA, isLeaf, const1, ustrA, simprocAttr, ti3, ti9, ti64, ti87, ti89, ti154, ti162, ca94, za89, cf, Tryz.results74, wpO_typeAssert, assert_yes, hb2, hgB, hrl, hst2, hdz, hjl, hi1, LoopK_eq]
        refine ⟨pp, ⟨by omega, by omega, fun w hw => by rw [List.mem_singleton.1 hw]⟩, ⟨p + 1, _, by omega, rfl, rfl, by simp; omega, by rw [List.append_assoc] at hst3; exact hst3⟩, ?_⟩
        simp only [intOf]; omega
      | al n v =>
        have has := fun A => assert_no [.str []] 162 89 (.agg [.str n, .iface (vT v) (vX v)]) rfl (A := A)
        simp only [viT, viX] at he
        simp only [zW, zX, zD, builtinA, isLeaf, const1, ustrA, simprocAttr, ti3, ti9, ti64, ti87, ti89, ti154, ti162, ca94, za89, cf, Tryz.results74, hb2, vRows_length, d2, he]
        refine ⟨pp, ?_⟩
        simp only [zW, zX, zD, builtinA, isLeaf, const1, ustrA, simprocAttr, ti3, ti9, ti64, ti87, ti89, ti154, ti162, ca94, za89, cf, Tryz.results74, wpO_typeAssert, has, hi1, LoopK_eq]
        refine ⟨⟨p + 1, B ++ [.cells [.str []]], by omega, rfl, by simp, by simp; omega, ?_⟩, ?_⟩
        · rw [Abs.getD_append_left hj, hg, htk, hdr]; simp [strI]
        · simp only [intOf]; omega
      | va n v =>
        have has := fun A => assert_no [.str []] 189 89 (.agg [.str n, .iface (vT v) (vX v)]) rfl (A := A)
        simp only [viT, viX] at he
        simp only [zW, zX, zD, builtinA, isLeaf, const1, ustrA, simprocAttr, ti3, ti9, ti64, ti87, ti89, ti154, ti162, ca94, za89, cf, Tryz.results74, hb2, vRows_length, d2, he]
        refine ⟨pp, ?_⟩
        simp only [zW, zX, zD, builtinA, isLeaf, const1, ustrA, simprocAttr, ti3, ti9, ti64, ti87, ti89, ti154, ti162, ca94, za89, cf, Tryz.results74, wpO_typeAssert, has, hi1, LoopK_eq]
        refine ⟨⟨p + 1, B ++ [.cells [.str []]], by omega, rfl, by simp, by simp; omega, ?_⟩, ?_⟩
        · rw [Abs.getD_append_left hj, hg, htk, hdr]; simp [strI]
        · simp only [intOf]; omega
    · have d2 : decide ((p : Int) < (ys.length : Int)) = false := by simp; omega
      have e : p = ys.length := by omega
      subst e
      simp only [zW, zX, zD, builtinA, isLeaf, const1, ustrA, simprocAttr, ti3, ti9, ti64, ti87, ti89, ti154, ti162, ca94, za89, cf, Tryz.results74, d2]
      exact ⟨B, j, rfl, rfl, hj, by simpa using hg⟩

theorem sg_none (A B : List Box) : SgOut A [] false (.tuple [.nils, .bool false]) (A ++ B) := ⟨_, [], rfl, .inl ⟨rfl, rfl, rfl⟩, by simp, by simp, by simp, fun i hi => Abs.getD_append_left hi⟩
set_option maxRecDepth 100000 in
theorem impl_StrengthenSig (s : List SigI) (hs : s.length ≤ 1048576) (ho : ∀ x ∈ s, x.Ok ∧ sz x.typ ≤ 1048576) (mod : List UInt8) (A : List Box) : ACalls Tryz.prog 40 [.slice (sEs s), .str mod] A (fun r A' => ∃ o, RdS s mod o ∧ SgOut A (nrX o) o.isSome r A') := by
  refine acalls_enterK (cf := cf 24 [0, 1, 4, 5, 6, 7, 19]) foll Tryz.func40 Tryz.ntmps40 (by simp [cf]) ?_
  simp only [Tryz.f40, EnterK_some, zW, zX, zD, builtinA, isLeaf, const1, ustrA, simprocAttr, ca55, ca57, ca73, ca74, cf, Tryz.results40]
  refine callO_intro (impl_readSigK s hs ho _) ?_
  rintro r A1 ⟨B, rfl, ⟨ys, j, h8, hr, rfl, hj, hg⟩ | ⟨hbad, rfl⟩⟩
  · have hyl := hr.1
    cases hord : ordB ys with
    | false =>
      simp only [zW, zX, zD, builtinA, isLeaf, const1, ustrA, simprocAttr, ca55, ca57, ca73, ca74, cf, Tryz.results40]
      exact ⟨none, .inl (by rw [sigB_reads h8 hr]; exact hord), sg_none A B⟩
    | true =>
      simp only [zW, zX, zD, builtinA, isLeaf, const1, ustrA, simprocAttr, ca55, ca57, ca73, ca74, cf, Tryz.results40]
      refine callK_intro (by simp only [zW, zX, zD, builtinA, isLeaf, const1, ustrA, simprocAttr, Option.map_some]; rfl) (impl_ModuleName mod _) ?_ rfl; rintro v A' ⟨rfl, rfl⟩
      cases hm : moduleB mod with
      | false =>
        simp only [zW, zX, zD, builtinA, isLeaf, const1, ustrA, simprocAttr, ca55, ca57, ca73, ca74, cf, Tryz.results40]
        exact ⟨none, .inr hm, sg_none A B⟩
      | true =>
        have hg2 : (A ++ B).getD (A.length + j) .dead = .row 1 (vRows ys) 0 := by rw [Abs.getD_append_right (by omega), Nat.add_sub_cancel_left]; exact hg
        simp only [zW, zX, zD, builtinA, isLeaf, const1, ustrA, simprocAttr, ca55, ca57, ca73, ca74, cf, Tryz.results40]
        refine callO_intro (impl_strengthen mod ys (A.length + j) (A ++ B) hg2 (by simp; omega) (by omega)) ?_
        rintro r A' ⟨C, k, rfl, rfl, hk, hgk⟩
        simp only [zW, zX, zD, builtinA, isLeaf, const1, ustrA, simprocAttr, ca55, ca57, ca73, ca74, cf, Tryz.results40]
        have h1 : (A ++ (B ++ C)).getD (A.length + B.length + k) .dead = .row 1 (vRows (ys.map (strI mod))) 0 := by
          rw [Abs.getD_append_right (by omega), show A.length + B.length + k - A.length = B.length + k by omega, Abs.getD_append_right (by omega), show B.length + k - B.length = k by omega]; exact hgk
        have hfz : frzs [.own (A.length + B.length + k)] (A ++ (B ++ C)) = some ([.slice (vRows (ys.map (strI mod)))], A ++ (B ++ C).set (B.length + k) (.row 1 (vRows (ys.map (strI mod))) (vRows (ys.map (strI mod))).length)) := by
          have h2 : (A ++ (B ++ C)).set (A.length + B.length + k) (.row 1 (vRows (ys.map (strI mod))) (vRows (ys.map (strI mod))).length) = A ++ (B ++ C).set (B.length + k) (.row 1 (vRows (ys.map (strI mod))) (vRows (ys.map (strI mod))).length) := by
            rw [List.set_append_right _ _ (by omega), show A.length + B.length + k - A.length = B.length + k by omega]
          simp only [frzs, frzC, frz1, h1, h2]
        refine callK_intro hfz (impl_plainSig (ys.map (strI mod)) (by simp; omega) _) ?_ rfl
        rintro r A' ⟨i, rfl, hle, hf, rows, S, hgi, hO, hN, hge⟩
        simp only [zW, zX, zD, builtinA, isLeaf, const1, ustrA, simprocAttr, ca55, ca57, ca73, ca74, cf, Tryz.results40]
        simp only [List.length_append, List.length_set] at hle hge
        exact ⟨some _, ⟨ys, h8, hr, hord, hm, rfl⟩, _, i :: S, rfl, .inr ⟨i, rows, S, rfl, rfl, hgi, hO⟩, hN, fun x hx => by have := hge x hx; omega, by omega, fun x hx => by rw [hf x (by simp; omega), Abs.getD_append_left hx]⟩
  · simp only [zW, zX, zD, builtinA, isLeaf, const1, ustrA, simprocAttr, ca55, ca57, ca73, ca74, cf, Tryz.results40]
    exact ⟨none, .inl (sigB_bad hbad), sg_none A B⟩

/-! ### the model -/
theorem ready {s : List SigI} {ys : List VI} (h : ReadsTo s ys) {i : Nat} (hi : i < s.length) : s.getD i si0 = siOf (ys.getD i vi0) := itemOf_si (h.2 i hi).2
theorem mix_get {Z D : List SigI} (x : SigI) {i : Nat} (hz : Z.length = i) : (sEs (Z ++ x :: D)).getD i [] = sE x := by
  rw [sEs_app, Abs.getD_append_right (by rw [sEs_length]; omega), sEs_length, hz, Nat.sub_self]; rfl
theorem mix_put {Z D : List SigI} (x y : SigI) {i : Nat} (hz : Z.length = i) : (sEs (Z ++ x :: D)).set i (sE y) = sEs (Z ++ y :: D) := by
  rw [sEs_app, List.set_append_right _ _ (by rw [sEs_length]; omega), sEs_length, hz, Nat.sub_self, sEs_app]; rfl
set_option maxRecDepth 100000 in
theorem spec_l2Strong (s : List SigI) (ys : List VI) (hs : s.length ≤ 8) (hz : ∀ x ∈ s, sz x.typ ≤ 1048576) (hr : ReadsTo s ys) (mod : List UInt8) (A : List Box) : ACalls Tryz.prog 136 [.slice (sEs s), .str mod] A (fun r A' => ∃ B j, A' = A ++ B ∧ r = .own (A.length + j) ∧ j < B.length ∧ B.getD j .dead = .row 6 (sEs ((ys.map (strI mod)).map siOf)) 0) := by
  have hyl := hr.1
  refine acalls_enterK (cf := cf 37 [0, 1, 4, 5, 6, 12, 20]) foll Tryz.func136 Tryz.ntmps136 (by simp [cf]) ?_
  simp only [Tryz.f136, EnterK_some, zW, zX, zD, builtinA, isLeaf, const1, ustrA, simprocAttr, ti3, ti9, ti25, ti45, ti49, ca53, ca138, cf, Tryz.results136]
  refine callO_intro (spec_l2Copy s (by omega) hz _) ?_
  rintro r A' ⟨B, j, rfl, rfl, hj, hg⟩
  simp only [zW, zX, zD, builtinA, isLeaf, const1, ustrA, simprocAttr, ti3, ti9, ti25, ti45, ti49, ca53, ca138, cf, Tryz.results136]
  refine aloop_intro [1, 5, 6] (fun e A' => ∃ i B, i ≤ s.length ∧ e = [(1, .str mod), (5, .own (A.length + j)), (6, .int .i64 i)] ∧ A' = A ++ B ∧ j < B.length ∧ B.getD j .dead = .row 6 (sEs (((ys.take i).map (strI mod)).map siOf ++ s.drop i)) 0) (fun e _ => s.length - (intOf (Abs.look 6 e)).toNat) ?_ ?_
  · simp only [zW, zX, zD, builtinA, isLeaf, const1, ustrA, simprocAttr, ti3, ti9, ti25, ti45, ti49, ca53, ca138, cf, Tryz.results136]
    exact ⟨0, B, by omega, rfl, rfl, hj, by simpa using hg⟩
  · rintro e A' ⟨i, B, hi, rfl, rfl, hj, hg⟩
    have hzl : (((ys.take i).map (strI mod)).map siOf).length = i := by simp; omega
    have hrl : (sEs (((ys.take i).map (strI mod)).map siOf ++ s.drop i)).length = s.length := by rw [sEs_length]; simp; omega
    simp only [zW, zX, zD, builtinA, isLeaf, const1, ustrA, simprocAttr, ti3, ti9, ti25, ti45, ti49, ca53, ca138, cf, Tryz.results136, hg, hj, hrl]
    refine condK_intro (fun h2 => ?_) (fun h2 => ?_)
    · have hi2 : i < s.length := by simpa using h2
      have hi1 : IntKind.i64.wrap ((i : Int) + 1) = ((i + 1 : Nat) : Int) := by rw [wrap64 (by omega) (by omega)]; rfl
      have pi : (0 : Int) ≤ (i : Int) ∧ (i : Int) < (s.length : Int) := ⟨by omega, by omega⟩
      have hm := mix_getD hzl hi2
      have hset := fun x => mix_set x hzl hi2
      have hdr := mix_drop hi2
      have hsi := ready hr hi2
      have htk : ((ys.take (i + 1)).map (strI mod)).map siOf = ((ys.take i).map (strI mod)).map siOf ++ [siOf (strI mod (ys.getD i vi0))] := by
        rw [List.take_add_one, List.map_append, List.map_append]; simp [List.getD, show i < ys.length by omega]
      rw [hsi] at hm hdr
      generalize ys.getD i vi0 = y at *
      cases y with
      | ab n =>
        have hN := fun A => spec_l1Name0 mod n A
        have hset1 := hset ⟨2, n, ty0⟩
        have hm2 := mix_get (D := s.drop (i + 1)) ⟨2, n, ty0⟩ hzl
        have hset2 := mix_put (D := s.drop (i + 1)) ⟨2, n, ty0⟩ ⟨2, n, .mk 3 mod n []⟩ hzl
        have hl2 : ∀ x, (sEs (((ys.take i).map (strI mod)).map siOf ++ x :: s.drop (i + 1))).length = s.length := fun x => by rw [sEs_length, List.length_append, hzl]; simp; omega
        simp only [siOf, sE, ty0, enc, encs] at hm hset1 hm2 hset2 hN
        have hgj : ∀ X : Box, (B.set j X).getD j .dead = X := fun X => getD_set_self hj
        simp only [zW, zX, zD, builtinA, isLeaf, const1, ustrA, simprocAttr, ti3, ti9, ti25, ti45, ti49, ca53, ca138, cf, Tryz.results136, hm, hset1, hm2, hset2, hl2, hg, hj, hgj, hrl]
        refine ⟨pi, pi, ⟨by omega, by omega, fun w hw => by rw [List.mem_singleton.1 hw]⟩, pi, ?_⟩
        refine callK_intro (by simp only [zW, zX, zD, builtinA, isLeaf, const1, ustrA, simprocAttr, Option.map_some]; rfl) (hN _) ?_ rfl; rintro v A' ⟨rfl, rfl⟩
        simp only [zW, zX, zD, builtinA, isLeaf, const1, ustrA, simprocAttr, ti3, ti9, ti25, ti45, ti49, ca53, ca138, cf, Tryz.results136, hm, hset1, hm2, hset2, hl2, hg, hj, hgj, hrl, List.set_set, hi1, LoopK_eq]
        have lf : ∀ w ∈ [AV.int .i64 3, AV.str mod, AV.str n, AV.slice []], isLeaf w = true := by simp [isLeaf]
        refine ⟨pi, ⟨by omega, by omega, fun w hw => lf w hw⟩, ⟨i + 1, _, by omega, rfl, rfl, by simpa using hj, by rw [hgj, htk]; simp [siOf, strI, toTy]⟩, ?_⟩
        simp only [intOf]; omega
      | al n v =>
        simp only [siOf, sE] at hm
        simp only [zW, zX, zD, builtinA, isLeaf, const1, ustrA, simprocAttr, ti3, ti9, ti25, ti45, ti49, ca53, ca138, cf, Tryz.results136, hm, hg, hj, hrl, enc_length]
        refine ⟨pi, ?_⟩
        simp only [zW, zX, zD, builtinA, isLeaf, const1, ustrA, simprocAttr, ti3, ti9, ti25, ti45, ti49, ca53, ca138, cf, Tryz.results136, hi1, LoopK_eq]
        refine ⟨⟨i + 1, B, by omega, rfl, rfl, hj, ?_⟩, ?_⟩
        · rw [hg, htk, hdr]; simp [strI]
        · simp only [intOf]; omega
      | va n v =>
        simp only [siOf, sE] at hm
        simp only [zW, zX, zD, builtinA, isLeaf, const1, ustrA, simprocAttr, ti3, ti9, ti25, ti45, ti49, ca53, ca138, cf, Tryz.results136, hm, hg, hj, hrl, enc_length]
        refine ⟨pi, ?_⟩
        simp only [zW, zX, zD, builtinA, isLeaf, const1, ustrA, simprocAttr, ti3, ti9, ti25, ti45, ti49, ca53, ca138, cf, Tryz.results136, hi1, LoopK_eq]
        refine ⟨⟨i + 1, B, by omega, rfl, rfl, hj, ?_⟩, ?_⟩
        · rw [hg, htk, hdr]; simp [strI]
        · simp only [intOf]; omega
    · have hi2 : i = s.length := by simp at h2; omega
      subst hi2
      simp only [zW, zX, zD, builtinA, isLeaf, const1, ustrA, simprocAttr, ti3, ti9, ti25, ti45, ti49, ca53, ca138, cf, Tryz.results136]
      refine ⟨B, j, rfl, rfl, hj, ?_⟩
      rw [hg, List.drop_length, List.append_nil, ← hyl, List.take_length]

set_option maxRecDepth 100000 in
theorem spec_StrengthenSig (s : List SigI) (hs : s.length ≤ 1048576) (ho : ∀ x ∈ s, x.Ok ∧ sz x.typ ≤ 1048576) (mod : List UInt8) (A : List Box) : ACalls Tryz.prog 101 [.slice (sEs s), .str mod] A (fun r A' => ∃ o, RdS s mod o ∧ r = nrR o ∧ A' = A) := by
  refine acalls_enter (cf := cf 21 [0, 1, 4, 5, 13]) foll Tryz.func101 Tryz.ntmps101 (by simp [cf]) ?_
  simp only [Tryz.f101, EnterK_some, zW, zX, zD, builtinA, isLeaf, const1, ustrA, simprocAttr, ti25, ti49, ca52, ca120, ca135, ca136, cf, Tryz.results101]
  refine callO_intro (spec_SigValid s hs ho _) ?_
  rintro r A' ⟨rfl, hA⟩
  have hA := hA.symm
  subst hA
  cases hb : sigB s with
  | false =>
    simp only [zW, zX, zD, builtinA, isLeaf, const1, ustrA, simprocAttr, ti25, ti49, ca52, ca120, ca135, ca136, cf, Tryz.results101]
    exact ⟨none, .inl hb, rfl⟩
  | true =>
    obtain ⟨ys, h8, hr, hord⟩ := sigB_yes hb
    have hys := hr.1
    simp only [zW, zX, zD, builtinA, isLeaf, const1, ustrA, simprocAttr, ti25, ti49, ca52, ca120, ca135, ca136, cf, Tryz.results101]
    refine callO_intro (spec_ModuleName mod _) ?_
    rintro r A' ⟨rfl, hA⟩
    have hA := hA.symm
    subst hA
    cases hm : moduleB mod with
    | false =>
      simp only [zW, zX, zD, builtinA, isLeaf, const1, ustrA, simprocAttr, ti25, ti49, ca52, ca120, ca135, ca136, cf, Tryz.results101]
      exact ⟨none, .inr hm, rfl⟩
    | true =>
      simp only [zW, zX, zD, builtinA, isLeaf, const1, ustrA, simprocAttr, ti25, ti49, ca52, ca120, ca135, ca136, cf, Tryz.results101]
      refine callO_intro (spec_l2Strong s ys h8 (fun x hx => (ho x hx).2) hr mod _) ?_
      rintro r A' ⟨B, j, rfl, rfl, hj, hg⟩
      have h1 : (A ++ B).getD (A.length + j) .dead = .row 6 (sEs ((ys.map (strI mod)).map siOf)) 0 := by
        rw [Abs.getD_append_right (by omega), show A.length + j - A.length = j by omega]; exact hg
      have hfz : frzs [.own (A.length + j)] (A ++ B) = some ([.slice (sEs ((ys.map (strI mod)).map siOf))], A ++ B.set j (.row 6 (sEs ((ys.map (strI mod)).map siOf)) (sEs ((ys.map (strI mod)).map siOf)).length)) := by
        have h2 : (A ++ B).set (A.length + j) (.row 6 (sEs ((ys.map (strI mod)).map siOf)) (sEs ((ys.map (strI mod)).map siOf)).length) = A ++ B.set j (.row 6 (sEs ((ys.map (strI mod)).map siOf)) (sEs ((ys.map (strI mod)).map siOf)).length) := by simp [List.set_append]
        simp only [frzs, frzC, frz1, h1, h2]
      have hsg : sigB ((ys.map (strI mod)).map siOf) = true := by rw [sigB_reads (by simp; omega) (str_reads hm hr)]; exact ordB_str hm hord
      have hzk : ∀ x ∈ (ys.map (strI mod)).map siOf, x.Ok ∧ sz x.typ ≤ 1048576 := fun x hx => by
        obtain ⟨z, hz1, rfl⟩ := List.mem_map.1 hx
        obtain ⟨y, hy1, rfl⟩ := List.mem_map.1 hz1
        obtain ⟨k, hk, rfl⟩ := List.mem_iff_getElem.1 hy1
        have e : ys[k] = ys.getD k vi0 := by simp [List.getD, hk]
        have h3 := hr.2 k (by omega)
        rw [e]
        refine siOf_ok (str_ok hm hr hk) ?_
        rw [viK_str, ← siOf_name, ← itemOf_si h3.2]
        exact (ho _ (si_mem (by omega))).1.1
      simp only [zW, zX, zD, builtinA, isLeaf, const1, ustrA, simprocAttr, ti25, ti49, ca52, ca120, ca135, ca136, cf, Tryz.results101]
      refine callK_intro hfz (spec_l2Made _ (by simp; omega) hzk _) ?_ rfl
      rintro r A' ⟨rfl, rfl⟩
      rw [if_pos hsg]
      simp only [sgR]
      simp only [zW, zX, zD, builtinA, isLeaf, const1, ustrA, simprocAttr, ti25, ti49, ca52, ca120, ca135, ca136, cf, Tryz.results101]
      exact ⟨some (ys.map (strI mod)), ⟨ys, h8, hr, hord, hm, rfl⟩, rfl⟩
end Go.Proofs.YtkajklfohjcofaaGreatDoor
