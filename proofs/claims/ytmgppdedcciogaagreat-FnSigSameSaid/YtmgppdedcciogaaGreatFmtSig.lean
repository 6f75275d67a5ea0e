/- Texts of signatures: the model's and the program's. -/
import Derived.Test.YtmgppdedcciogaaGreatSigRead
import Derived.Test.YtmgppdedcciogaaGreatFmt
import Derived.Test.YtmgppdedcciogaaGreatFmtP
import Derived.Test.YtmgppdedcciogaaGreatAbsW3
set_option linter.unusedVariables false
set_option linter.unusedSimpArgs false
namespace Go.Proofs.YtmgppdedcciogaaGreat
open Go.Abs

def txtI : VI → List UInt8
  | .ab n => n
  | .al n v => n ++ [61] ++ txt v
  | .va n v => n ++ [58] ++ txt v
def bodyN (ys : List VI) : Nat → List UInt8
  | 0 => []
  | i + 1 => bodyN ys i ++ (if i = 0 then [] else [59]) ++ txtI (ys.getD i vi0)
def txtS (ys : List VI) : List UInt8 := [123] ++ bodyN ys ys.length ++ [125]
def nameI : VI → List UInt8
  | .ab n => n
  | .al n _ => n
  | .va n _ => n
def okI : VI → Prop
  | .ab _ => True
  | .al _ v => VOk v
  | .va _ v => VOk v
theorem itemOf_ok {x : SigI} {y : VI} (h : ItemOf x y) : nameI y = x.name ∧ okI y := by
  cases y with
  | ab n => exact ⟨h.1.symm, trivial⟩
  | al n v => exact ⟨h.1.symm, h.2.2.2⟩
  | va n v => exact ⟨h.1.symm, h.2.2.2⟩
theorem local_one {n : List UInt8} (h : localB n = true) : n.length = 1 := by simp [localB] at h; exact h.1
theorem txtI_len {y : VI} (h : okI y) (hn : (nameI y).length = 1) : (txtI y).length ≤ 300 := by
  cases y with
  | ab n => simp only [txtI, nameI] at *; omega
  | al n v => have h1 := txt_len v h.ok; have h2 := h.cnt; simp only [txtI, nameI, List.length_append, List.length_cons, List.length_nil] at *; omega
  | va n v => have h1 := txt_len v h.ok; have h2 := h.cnt; simp only [txtI, nameI, List.length_append, List.length_cons, List.length_nil] at *; omega
theorem bodyN_len {ys : List VI} (h : ∀ k, k < ys.length → (txtI (ys.getD k vi0)).length ≤ 300) : ∀ i, i ≤ ys.length → (bodyN ys i).length ≤ 301 * i
  | 0, _ => by simp [bodyN]
  | i + 1, hi => by
    have h1 := bodyN_len h i (by omega)
    have h2 := h i (by omega)
    have h3 : (if i = 0 then ([] : List UInt8) else [59]).length ≤ 1 := by split <;> simp
    rw [bodyN, List.length_append, List.length_append]
    omega


set_option maxRecDepth 100000 in
theorem ab_write (k : List UInt8) (hk : k ≠ []) (n : Nat) (A : List Box) (i : Nat) (bs : List UInt8) (h : BldAt n A i bs) (hl : bs.length + k.length ≤ 1000000) : ACalls Tryz.prog 135 [viX (.ab k), .ptr i 0] A (fun r A' => BldAt n A' i (bs ++ txtI (.ab k)) ∧ Fr i A A') := by
  rw [viX]
  obtain ⟨h1, g1⟩ := goes_app h [.cells [.str k]]
  simp only [txtI]
  refine acalls_enterK (cf := cf 8 [0, 1, 2]) foll Tryz.func135 Tryz.ntmps135 (by simp [cf]) ?_
  simp only [Tryz.f135, EnterK_some, zW, zX, zD, builtinA, isLeaf, const1, ustrA, simprocAttr, ti9, ti127, ca119, cf, Tryz.results135]
  refine callK_intro (by simp only [zW, zX, zD, builtinA, isLeaf, const1, ustrA, simprocAttr] <;> rfl) (bld_ws n _ i bs k h1 hk (by omega)) ?_ rfl
  rintro r A' ⟨h2, g2⟩
  simp only [zW, zX, zD, builtinA, isLeaf, const1, ustrA, simprocAttr, ti9, ti127, ca119, cf, Tryz.results135]
  exact ⟨h2, g1.trans g2⟩
set_option maxRecDepth 100000 in
theorem al_write (k : List UInt8) (hk : k ≠ []) (v : VT) (hv : okV v = true) (n : Nat) (A : List Box) (i : Nat) (bs : List UInt8) (h : BldAt n A i bs) (hl : bs.length + (k.length + 1 + (txt v).length) ≤ 1000000) : ACalls Tryz.prog 141 [viX (.al k v), .ptr i 0] A (fun r A' => BldAt n A' i (bs ++ txtI (.al k v)) ∧ Fr i A A') := by
  rw [viX]
  obtain ⟨h1, g1⟩ := goes_app h [.cells [.str k, .iface (vT v) (vX v)]]
  have hil : i < A.length := h.2.1
  have hrl := h.row_lt
  have look : ∀ A', Fr i (A ++ [Box.cells [.str k, .iface (vT v) (vX v)]]) A' → A'.getD A.length .dead = .cells [.str k, .iface (vT v) (vX v)] := fun A' g => by
    rw [g.2.2 A.length (by simp) (by omega) (by rw [rowIx_app hil]; omega), Abs.getD_append_right (by omega)]
    simp
  simp only [txtI]
  refine acalls_enterK (cf := cf 14 [0, 1, 2]) foll Tryz.func141 Tryz.ntmps141 (by simp [cf]) ?_
  simp only [Tryz.f141, EnterK_some, zW, zX, zD, builtinA, isLeaf, const1, ustrA, simprocAttr, ti9, ti76, ti130, ca119, ca128, cf, Tryz.results141]
  refine callK_intro (by simp only [zW, zX, zD, builtinA, isLeaf, const1, ustrA, simprocAttr] <;> rfl) (bld_ws n _ i bs k h1 hk (by omega)) ?_ rfl
  rintro r A1 ⟨h2, g2⟩
  simp only [zW, zX, zD, builtinA, isLeaf, const1, ustrA, simprocAttr, ti9, ti76, ti130, ca119, ca128, cf, Tryz.results141]
  refine callK_intro (by simp only [zW, zX, zD, builtinA, isLeaf, const1, ustrA, simprocAttr] <;> rfl) (bld_wb n _ i (bs ++ k) 61 h2 (by simp; omega)) ?_ rfl
  rintro r A2 ⟨h3, g3⟩
  have b1 := look A2 (g2.trans g3)
  simp only [zW, zX, zD, builtinA, isLeaf, const1, ustrA, simprocAttr, ti9, ti76, ti130, ca119, ca128, cf, Tryz.results141, b1]
  refine wpO_invoke _ _ _ _ _ _ _ _ _ _ _ _ _ _ _ _ ?_
  simp only [zW, zX, zD, builtinA, isLeaf, const1, ustrA, simprocAttr, ti9, ti76, ti130, ca119, ca128, cf, Tryz.results141]
  refine meth_invK (met3 (by kernel_rfl) (by kernel_rfl) (by kernel_rfl) (by kernel_rfl) (by kernel_rfl) (by kernel_rfl)) (writeM v hv n _ i (bs ++ k ++ [61]) h3 (by simp; omega)) rfl (fun _ => rfl) ?_
  rintro r A3 ⟨h4, g4⟩
  simp only [zW, zX, zD, builtinA, isLeaf, const1, ustrA, simprocAttr, ti9, ti76, ti130, ca119, ca128, cf, Tryz.results141]
  exact ⟨by simpa using h4, g1.trans (g2.trans (g3.trans g4))⟩
set_option maxRecDepth 100000 in
theorem va_write (k : List UInt8) (hk : k ≠ []) (v : VT) (hv : okV v = true) (n : Nat) (A : List Box) (i : Nat) (bs : List UInt8) (h : BldAt n A i bs) (hl : bs.length + (k.length + 1 + (txt v).length) ≤ 1000000) : ACalls Tryz.prog 147 [viX (.va k v), .ptr i 0] A (fun r A' => BldAt n A' i (bs ++ txtI (.va k v)) ∧ Fr i A A') := by
  rw [viX]
  obtain ⟨h1, g1⟩ := goes_app h [.cells [.str k, .iface (vT v) (vX v)]]
  have hil : i < A.length := h.2.1
  have hrl := h.row_lt
  have look : ∀ A', Fr i (A ++ [Box.cells [.str k, .iface (vT v) (vX v)]]) A' → A'.getD A.length .dead = .cells [.str k, .iface (vT v) (vX v)] := fun A' g => by
    rw [g.2.2 A.length (by simp) (by omega) (by rw [rowIx_app hil]; omega), Abs.getD_append_right (by omega)]
    simp
  simp only [txtI]
  refine acalls_enterK (cf := cf 14 [0, 1, 2]) foll Tryz.func147 Tryz.ntmps147 (by simp [cf]) ?_
  simp only [Tryz.f147, EnterK_some, zW, zX, zD, builtinA, isLeaf, const1, ustrA, simprocAttr, ti9, ti76, ti141, ca119, ca128, cf, Tryz.results147]
  refine callK_intro (by simp only [zW, zX, zD, builtinA, isLeaf, const1, ustrA, simprocAttr] <;> rfl) (bld_ws n _ i bs k h1 hk (by omega)) ?_ rfl
  rintro r A1 ⟨h2, g2⟩
  simp only [zW, zX, zD, builtinA, isLeaf, const1, ustrA, simprocAttr, ti9, ti76, ti141, ca119, ca128, cf, Tryz.results147]
  refine callK_intro (by simp only [zW, zX, zD, builtinA, isLeaf, const1, ustrA, simprocAttr] <;> rfl) (bld_wb n _ i (bs ++ k) 58 h2 (by simp; omega)) ?_ rfl
  rintro r A2 ⟨h3, g3⟩
  have b1 := look A2 (g2.trans g3)
  simp only [zW, zX, zD, builtinA, isLeaf, const1, ustrA, simprocAttr, ti9, ti76, ti141, ca119, ca128, cf, Tryz.results147, b1]
  refine wpO_invoke _ _ _ _ _ _ _ _ _ _ _ _ _ _ _ _ ?_
  simp only [zW, zX, zD, builtinA, isLeaf, const1, ustrA, simprocAttr, ti9, ti76, ti141, ca119, ca128, cf, Tryz.results147]
  refine meth_invK (met3 (by kernel_rfl) (by kernel_rfl) (by kernel_rfl) (by kernel_rfl) (by kernel_rfl) (by kernel_rfl)) (writeM v hv n _ i (bs ++ k ++ [58]) h3 (by simp; omega)) rfl (fun _ => rfl) ?_
  rintro r A3 ⟨h4, g4⟩
  simp only [zW, zX, zD, builtinA, isLeaf, const1, ustrA, simprocAttr, ti9, ti76, ti141, ca119, ca128, cf, Tryz.results147]
  exact ⟨by simpa using h4, g1.trans (g2.trans (g3.trans g4))⟩
theorem writeI (y : VI) (ho : okI y) (hn : (nameI y).length = 1) (n : Nat) (A : List Box) (i : Nat) (bs : List UInt8) (h : BldAt n A i bs) (hl : bs.length + (txtI y).length ≤ 1000000) : ACalls Tryz.prog ((pickI 135 141 147) y) [viX y, .ptr i 0] A (fun r A' => BldAt n A' i (bs ++ txtI y) ∧ Fr i A A') := by
  cases y with
  | ab k => exact ab_write k (by rintro rfl; simp [nameI] at hn) n A i bs h (by simpa [txtI] using hl)
  | al k v => exact al_write k (by rintro rfl; simp [nameI] at hn) v ho.ok n A i bs h (by simp [txtI] at hl; omega)
  | va k v => exact va_write k (by rintro rfl; simp [nameI] at hn) v ho.ok n A i bs h (by simp [txtI] at hl; omega)

/-! ### the whole -/

set_option maxRecDepth 100000 in
theorem impl_writeList (ys : List VI) (h8 : ys.length ≤ 8) (ho : ∀ k, k < ys.length → okI (ys.getD k vi0) ∧ (nameI (ys.getD k vi0)).length = 1) (n : Nat) (A : List Box) (j : Nat) (h : BldAt n A j []) : ACalls Tryz.prog 118 [.ptr j 0, .str [123], .str [59], .str [125], .slice (vRows ys)] A (fun r A' => BldAt n A' j (txtS ys) ∧ Fr j A A') := by
  have hbl := bodyN_len (ys := ys) (fun k hk => txtI_len (ho k hk).1 (ho k hk).2)
  refine acalls_enterK (cf := cf 34 [0, 1, 2, 3, 4, 10, 11, 15, 16, 17, 18, 23]) foll Tryz.func118 Tryz.ntmps118 (by simp [cf]) ?_
  simp only [Tryz.f118, EnterK_some, zW, zX, zD, builtinA, isLeaf, const1, ustrA, simprocAttr, ti3, ti63, ti108, ca119, cf, Tryz.results118]
  refine callK_intro (by simp only [zW, zX, zD, builtinA, isLeaf, const1, ustrA, simprocAttr] <;> rfl) (bld_ws n _ j [] [123] h (by simp) (by simp)) ?_ rfl
  rintro r A1 ⟨h1, g1⟩
  simp only [zW, zX, zD, builtinA, isLeaf, const1, ustrA, simprocAttr, ti3, ti63, ti108, ca119, cf, Tryz.results118, vRows_length]
  refine aloop_intro [0, 2, 3, 15, 16, 17] (fun e A' => ∃ i, i ≤ ys.length ∧ e = [(0, .ptr j 0), (2, .str [59]), (3, .str [125]), (15, .slice (vRows ys)), (16, .int .i64 ys.length), (17, .int .i64 (i : Nat))] ∧ BldAt n A' j ([] ++ [123] ++ bodyN ys i) ∧ Fr j A A') (fun e _ => ys.length - (intOf (Abs.look 17 e)).toNat) ?_ ?_
  · simp only [zW, zX, zD, builtinA, isLeaf, const1, ustrA, simprocAttr, ti3, ti63, ti108, ca119, cf, Tryz.results118]
    exact ⟨0, by omega, rfl, by simpa [bodyN] using h1, g1⟩
  · rintro e A' ⟨i, hi, rfl, hbl1, hfr⟩
    by_cases hlt : i < ys.length
    · have d1 : decide ((i : Int) < (ys.length : Int)) = true := by simp; omega
      have hlt' : 0 ≤ (i : Int) ∧ (i : Int) < (ys.length : Int) := by omega
      have hg := vRows_getD hlt
      have hb1 := hbl i (by omega)
      have hb2 := hbl (i + 1) (by omega)
      have hoy := ho i hlt
      have htl := txtI_len hoy.1 hoy.2
      have hi1 : IntKind.i64.wrap ((i : Int) + 1) = ((i + 1 : Nat) : Int) := by rw [wrap64 (by omega) (by omega)]; rfl
      have hb : bodyN ys (i + 1) = bodyN ys i ++ (if i = 0 then [] else [59]) ++ txtI (ys.getD i vi0) := rfl
      generalize ys.getD i vi0 = y at *
      rw [vRow] at hg
      by_cases h0 : i = 0
      · have d2 : decide ((i : Int) > 0) = false := by simp; omega
        have d2' : decide (0 < (i : Int)) = false := by simp; omega
        rw [if_pos h0, List.append_nil] at hb
        simp only [zW, zX, zD, builtinA, isLeaf, const1, ustrA, simprocAttr, ti3, ti63, ti108, ca119, cf, Tryz.results118, vRows_length, d1, d2, d2', hg]
        refine ⟨hlt', ?_⟩
        refine wpO_invoke _ _ _ _ _ _ _ _ _ _ _ _ _ _ _ _ ?_
        simp only [zW, zX, zD, builtinA, isLeaf, const1, ustrA, simprocAttr, ti3, ti63, ti108, ca119, cf, Tryz.results118]
        refine methI_invK (metI3 (by kernel_rfl) (by kernel_rfl) (by kernel_rfl) (by kernel_rfl) (by kernel_rfl) (by kernel_rfl)) (writeI y hoy.1 hoy.2 n _ j _ hbl1 (by simp; omega)) rfl (fun _ => rfl) ?_
        rintro r A2 ⟨h2, g2⟩
        simp only [zW, zX, zD, builtinA, isLeaf, const1, ustrA, simprocAttr, ti3, ti63, ti108, ca119, cf, Tryz.results118, hi1, LoopK_eq]
        refine ⟨⟨i + 1, by omega, rfl, by rw [hb]; simpa using h2, hfr.trans g2⟩, ?_⟩
        simp only [intOf]; omega
      · have d2 : decide ((i : Int) > 0) = true := by simp; omega
        have d2' : decide (0 < (i : Int)) = true := by simp; omega
        rw [if_neg h0] at hb
        simp only [zW, zX, zD, builtinA, isLeaf, const1, ustrA, simprocAttr, ti3, ti63, ti108, ca119, cf, Tryz.results118, vRows_length, d1, d2, d2', hg]
        refine ⟨hlt', ?_⟩
        refine callK_intro (by simp only [zW, zX, zD, builtinA, isLeaf, const1, ustrA, simprocAttr] <;> rfl) (bld_ws n _ j _ [59] hbl1 (by simp) (by simp; omega)) ?_ rfl
        rintro r A2 ⟨h2, g2⟩
        simp only [zW, zX, zD, builtinA, isLeaf, const1, ustrA, simprocAttr, ti3, ti63, ti108, ca119, cf, Tryz.results118]
        refine wpO_invoke _ _ _ _ _ _ _ _ _ _ _ _ _ _ _ _ ?_
        simp only [zW, zX, zD, builtinA, isLeaf, const1, ustrA, simprocAttr, ti3, ti63, ti108, ca119, cf, Tryz.results118]
        refine methI_invK (metI3 (by kernel_rfl) (by kernel_rfl) (by kernel_rfl) (by kernel_rfl) (by kernel_rfl) (by kernel_rfl)) (writeI y hoy.1 hoy.2 n _ j _ h2 (by simp; omega)) rfl (fun _ => rfl) ?_
        rintro r A3 ⟨h3, g3⟩
        simp only [zW, zX, zD, builtinA, isLeaf, const1, ustrA, simprocAttr, ti3, ti63, ti108, ca119, cf, Tryz.results118, hi1, LoopK_eq]
        refine ⟨⟨i + 1, by omega, rfl, by rw [hb]; simpa using h3, hfr.trans (g2.trans g3)⟩, ?_⟩
        simp only [intOf]; omega
    · have d1 : decide ((i : Int) < (ys.length : Int)) = false := by simp; omega
      have e : i = ys.length := by omega
      subst e
      have hb1 := hbl _ hi
      simp only [zW, zX, zD, builtinA, isLeaf, const1, ustrA, simprocAttr, ti3, ti63, ti108, ca119, cf, Tryz.results118, vRows_length, d1]
      refine callK_intro (by simp only [zW, zX, zD, builtinA, isLeaf, const1, ustrA, simprocAttr] <;> rfl) (bld_ws n _ j _ [125] hbl1 (by simp) (by simp; omega)) ?_ rfl
      rintro r A2 ⟨h2, g2⟩
      simp only [zW, zX, zD, builtinA, isLeaf, const1, ustrA, simprocAttr, ti3, ti63, ti108, ca119, cf, Tryz.results118]
      exact ⟨by simpa [txtS] using h2, hfr.trans g2⟩

set_option maxRecDepth 100000 in
theorem impl_sigWrite (ys : List VI) (h8 : ys.length ≤ 8) (ho : ∀ k, k < ys.length → okI (ys.getD k vi0) ∧ (nameI (ys.getD k vi0)).length = 1) (n : Nat) (A : List Box) (j : Nat) (h : BldAt n A j []) : ACalls Tryz.prog 117 [.slice (vRows ys), .ptr j 0] A (fun r A' => BldAt n A' j (txtS ys) ∧ Fr j A A') := by
  refine acalls_enterK (cf := cf 7 [0, 1]) foll Tryz.func117 Tryz.ntmps117 (by simp [cf]) ?_
  simp only [Tryz.f117, EnterK_some, zW, zX, zD, builtinA, isLeaf, const1, ustrA, simprocAttr, ca118, cf, Tryz.results117]
  refine callK_intro (by simp only [zW, zX, zD, builtinA, isLeaf, const1, ustrA, simprocAttr] <;> rfl) (impl_writeList ys h8 ho n _ j h) ?_ rfl
  rintro r A1 ⟨h1, g1⟩
  simp only [zW, zX, zD, builtinA, isLeaf, const1, ustrA, simprocAttr, ca118, cf, Tryz.results117]
  exact ⟨h1, g1⟩

set_option maxRecDepth 100000 in
theorem impl_textSig (ys : List VI) (h8 : ys.length ≤ 8) (ho : ∀ k, k < ys.length → okI (ys.getD k vi0) ∧ (nameI (ys.getD k vi0)).length = 1) (A : List Box) : ACalls Tryz.prog 39 [.iface 64 (.slice (vRows ys))] A (fun r A' => r = .str (txtS ys) ∧ A' = A) := by
  have hbl := bodyN_len (ys := ys) (fun k hk => txtI_len (ho k hk).1 (ho k hk).2) ys.length (by omega)
  have htl : (txtS ys).length ≤ 1000000 := by simp [txtS]; omega
  refine acalls_enter (cf := cf 7 [0, 2, 3]) foll Tryz.func39 Tryz.ntmps39 (by simp [cf]) ?_
  simp only [Tryz.f39, EnterK_some, zW, zX, zD, builtinA, isLeaf, const1, ustrA, simprocAttr, ti115, ca70, cf, Tryz.results39]
  refine wpO_invoke _ _ _ _ _ _ _ _ _ _ _ _ _ _ _ _ ?_
  simp only [zW, zX, zD, builtinA, isLeaf, const1, ustrA, simprocAttr, ti115, ca70, cf, Tryz.results39]
  have hn : BldAt A.length (A ++ [Box.tc TB [AV.nilp, AV.nils]]) A.length [] := by
    refine ⟨by omega, by simp, .nilp, .nils, ?_, .inl rfl, .inl ⟨rfl, rfl⟩⟩
    rw [Abs.getD_append_right (by omega)]
    simp
  refine ⟨117, by kernel_rfl, by kernel_rfl, callK_intro rfl (impl_sigWrite ys h8 ho A.length _ A.length hn) ?_ rfl⟩
  rintro r A2 ⟨h2, g2⟩
  simp only [zW, zX, zD, builtinA, isLeaf, const1, ustrA, simprocAttr, ti115, ca70, cf, Tryz.results39]
  refine callK_intro (by simp only [zW, zX, zD, builtinA, isLeaf, const1, ustrA, simprocAttr] <;> rfl) (bld_str A.length _ A.length (txtS ys) h2 htl) ?_ rfl
  rintro r A3 ⟨rfl, g3⟩
  have g := (g2.goes hn).trans g3
  simp only [zW, zX, zD, builtinA, isLeaf, const1, ustrA, simprocAttr, ti115, ca70, cf, Tryz.results39]
  exact ⟨g.outer, g.back⟩
end Go.Proofs.YtmgppdedcciogaaGreat
