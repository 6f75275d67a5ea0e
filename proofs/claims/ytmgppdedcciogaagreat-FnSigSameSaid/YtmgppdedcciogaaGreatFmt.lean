/- Texts of valid types: what the program's and the model's functions write. -/
import Derived.Test.YtmgppdedcciogaaGreatTypesMeth
import Derived.Test.YtmgppdedcciogaaGreatBldW
import Derived.Test.YtmgppdedcciogaaGreatTxt
import Derived.Test.YtmgppdedcciogaaGreatAbsW3
set_option linter.unusedVariables false
set_option linter.unusedSimpArgs false
namespace Go.Proofs.YtmgppdedcciogaaGreat
open Go.Abs

theorem BldAt.row_lt {n i : Nat} {A : List Box} {bs : List UInt8} (h : BldAt n A i bs) : rowIx A i < A.length := by
  obtain ⟨hn, hil, p, v, hA, hp, hv⟩ := h
  unfold rowIx
  rw [hA]
  rcases hv with ⟨rfl, _⟩ | ⟨j, rfl, _, hj, _⟩
  · exact hil
  · exact hj
theorem rowIx_app {i : Nat} {A B : List Box} (hi : i < A.length) : rowIx (A ++ B) i = rowIx A i := by
  unfold rowIx; rw [Abs.getD_append_left hi]
def WriteM (v : VT) : Prop := ∀ n A i bs, BldAt n A i bs → bs.length + (txt v).length ≤ 1000000 → ACalls Tryz.prog ((pickF 154 161 127) v) [vX v, .ptr i 0] A (fun r A' => BldAt n A' i (bs ++ txt v) ∧ Fr i A A')

theorem goes_app {n : Nat} {A : List Box} {i : Nat} {bs : List UInt8} (h : BldAt n A i bs) (B : List Box) : BldAt n (A ++ B) i bs ∧ Fr i A (A ++ B) := by
  obtain ⟨hn, hil, p, v, hA, hp, hv⟩ := h
  refine ⟨⟨hn, by simp; omega, p, v, by rw [Abs.getD_append_left hil]; exact hA, hp, ?_⟩, Fr.app hil B⟩
  rcases hv with h | ⟨j, h1, h2, h3, h4, h5, h6⟩
  · exact .inl h
  · exact .inr ⟨j, h1, h2, by simp; omega, h4, by rw [Abs.getD_append_left h3]; exact h5, h6⟩

set_option maxRecDepth 100000 in
theorem num_write : WriteM .num := fun n A i bs h hl => by
  show ACalls Tryz.prog 154 _ _ _
  rw [vX]
  obtain ⟨h1, g1⟩ := goes_app h [.cells []]
  simp only [txt, List.length_cons, List.length_nil] at hl ⊢
  refine acalls_enterK (cf := cf 6 [0, 1]) foll Tryz.func154 Tryz.ntmps154 (by simp [cf]) ?_
  simp only [Tryz.f154, EnterK_some, zW, zX, zD, builtinA, isLeaf, const1, ustrA, simprocAttr, ti151, ca128, cf, Tryz.results154]
  refine callK_intro (by simp only [zW, zX, zD, builtinA, isLeaf, const1, ustrA, simprocAttr] <;> rfl) (bld_wb n _ i bs 73 h1 (by omega)) ?_ rfl
  rintro r A' ⟨h2, g2⟩
  simp only [zW, zX, zD, builtinA, isLeaf, const1, ustrA, simprocAttr, ti151, ca128, cf, Tryz.results154]
  exact ⟨h2, g1.trans g2⟩

set_option maxRecDepth 100000 in
theorem name_write (m k : List UInt8) (hk : k ≠ []) : WriteM (.nm m k) := fun n A i bs h hl => by
  show ACalls Tryz.prog 127 _ _ _
  rw [vX]
  obtain ⟨h1, g1⟩ := goes_app h [.cells [.str m, .str k]]
  have hil : i < A.length := h.2.1
  simp only [txt] at hl ⊢
  by_cases hm : m = []
  · refine acalls_enterK (cf := cf 17 [0, 1, 2, 6]) foll Tryz.func127 Tryz.ntmps127 (by simp [cf]) ?_
    simp only [Tryz.f127, EnterK_some, zW, zX, zD, builtinA, isLeaf, const1, ustrA, simprocAttr, ti9, ti83, ca119, ca128, cf, Tryz.results127]
    simp only [zW, zX, zD, builtinA, isLeaf, const1, ustrA, simprocAttr, ti9, ti83, ca119, ca128, cf, Tryz.results127, decide_eq_true hm, Bool.not_true]
    simp only [path, if_pos hm] at hl ⊢
    refine callK_intro (by simp only [zW, zX, zD, builtinA, isLeaf, const1, ustrA, simprocAttr] <;> rfl) (bld_ws n _ i bs k h1 hk (by omega)) ?_ rfl
    rintro r A' ⟨h2, g2⟩
    simp only [zW, zX, zD, builtinA, isLeaf, const1, ustrA, simprocAttr, ti9, ti83, ca119, ca128, cf, Tryz.results127]
    exact ⟨h2, g1.trans g2⟩
  · simp only [path, if_neg hm, List.length_append, List.length_cons, List.length_nil] at hl ⊢
    refine acalls_enterK (cf := cf 17 [0, 1, 2, 6]) foll Tryz.func127 Tryz.ntmps127 (by simp [cf]) ?_
    simp only [Tryz.f127, EnterK_some, zW, zX, zD, builtinA, isLeaf, const1, ustrA, simprocAttr, ti9, ti83, ca119, ca128, cf, Tryz.results127]
    simp only [zW, zX, zD, builtinA, isLeaf, const1, ustrA, simprocAttr, ti9, ti83, ca119, ca128, cf, Tryz.results127, decide_eq_false hm, Bool.not_false]
    refine callK_intro (by simp only [zW, zX, zD, builtinA, isLeaf, const1, ustrA, simprocAttr] <;> rfl) (bld_ws n _ i bs m h1 hm (by omega)) ?_ rfl
    rintro r A1 ⟨h2, g2⟩
    simp only [zW, zX, zD, builtinA, isLeaf, const1, ustrA, simprocAttr, ti9, ti83, ca119, ca128, cf, Tryz.results127]
    refine callK_intro (by simp only [zW, zX, zD, builtinA, isLeaf, const1, ustrA, simprocAttr] <;> rfl) (bld_wb n _ i (bs ++ m) 46 h2 (by simp; omega)) ?_ rfl
    rintro r A2 ⟨h3, g3⟩
    have hb : A2.getD A.length .dead = .cells [.str m, .str k] := by
      rw [(g2.trans g3).2.2 A.length (by simp) (by omega) (by have := h.row_lt; rw [rowIx_app hil]; omega), Abs.getD_append_right (by omega)]
      simp
    simp only [zW, zX, zD, builtinA, isLeaf, const1, ustrA, simprocAttr, ti9, ti83, ca119, ca128, cf, Tryz.results127, hb]
    refine callK_intro (by simp only [zW, zX, zD, builtinA, isLeaf, const1, ustrA, simprocAttr] <;> rfl) (bld_ws n _ i (bs ++ m ++ [46]) k h3 hk (by simp; omega)) ?_ rfl
    rintro r A3 ⟨h4, g4⟩
    simp only [zW, zX, zD, builtinA, isLeaf, const1, ustrA, simprocAttr, ti9, ti83, ca119, ca128, cf, Tryz.results127]
    exact ⟨by simpa using h4, g1.trans (g2.trans (g3.trans g4))⟩

set_option maxRecDepth 100000 in
theorem fun_write (a b : VT) (ha : WriteM a) (hb : WriteM b) : WriteM (.fn a b) := fun n A i bs h hl => by
  show ACalls Tryz.prog 161 _ _ _
  rw [vX]
  obtain ⟨h1, g1⟩ := goes_app h [.cells [.iface (vT a) (vX a), .iface (vT b) (vX b)]]
  have hil : i < A.length := h.2.1
  have hrl := h.row_lt
  simp only [txt, List.length_append, List.length_cons, List.length_nil] at hl ⊢
  have look : ∀ A', Fr i (A ++ [Box.cells [.iface (vT a) (vX a), .iface (vT b) (vX b)]]) A' → A'.getD A.length .dead = .cells [.iface (vT a) (vX a), .iface (vT b) (vX b)] := fun A' g => by
    rw [g.2.2 A.length (by simp) (by omega) (by rw [rowIx_app hil]; omega), Abs.getD_append_right (by omega)]
    simp
  refine acalls_enterK (cf := cf 18 [0, 1, 2]) foll Tryz.func161 Tryz.ntmps161 (by simp [cf]) ?_
  simp only [Tryz.f161, EnterK_some, zW, zX, zD, builtinA, isLeaf, const1, ustrA, simprocAttr, ti76, ti160, ca128, cf, Tryz.results161]
  refine callK_intro (by simp only [zW, zX, zD, builtinA, isLeaf, const1, ustrA, simprocAttr] <;> rfl) (bld_wb n _ i bs 40 h1 (by omega)) ?_ rfl
  rintro r A1 ⟨h2, g2⟩
  have b1 := look A1 g2
  simp only [zW, zX, zD, builtinA, isLeaf, const1, ustrA, simprocAttr, ti76, ti160, ca128, cf, Tryz.results161, b1]
  refine wpO_invoke _ _ _ _ _ _ _ _ _ _ _ _ _ _ _ _ ?_
  simp only [zW, zX, zD, builtinA, isLeaf, const1, ustrA, simprocAttr, ti76, ti160, ca128, cf, Tryz.results161]
  refine meth_invK (met3 (by kernel_rfl) (by kernel_rfl) (by kernel_rfl) (by kernel_rfl) (by kernel_rfl) (by kernel_rfl)) (ha n _ i (bs ++ [40]) h2 (by simp; omega)) rfl (fun _ => rfl) ?_
  rintro r A2 ⟨h3, g3⟩
  simp only [zW, zX, zD, builtinA, isLeaf, const1, ustrA, simprocAttr, ti76, ti160, ca128, cf, Tryz.results161]
  refine callK_intro (by simp only [zW, zX, zD, builtinA, isLeaf, const1, ustrA, simprocAttr] <;> rfl) (bld_wb n _ i (bs ++ [40] ++ txt a) 62 h3 (by simp; omega)) ?_ rfl
  rintro r A3 ⟨h4, g4⟩
  have b3 := look A3 (g2.trans (g3.trans g4))
  simp only [zW, zX, zD, builtinA, isLeaf, const1, ustrA, simprocAttr, ti76, ti160, ca128, cf, Tryz.results161, b3]
  refine wpO_invoke _ _ _ _ _ _ _ _ _ _ _ _ _ _ _ _ ?_
  simp only [zW, zX, zD, builtinA, isLeaf, const1, ustrA, simprocAttr, ti76, ti160, ca128, cf, Tryz.results161]
  refine meth_invK (met3 (by kernel_rfl) (by kernel_rfl) (by kernel_rfl) (by kernel_rfl) (by kernel_rfl) (by kernel_rfl)) (hb n _ i (bs ++ [40] ++ txt a ++ [62]) h4 (by simp; omega)) rfl (fun _ => rfl) ?_
  rintro r A4 ⟨h5, g5⟩
  simp only [zW, zX, zD, builtinA, isLeaf, const1, ustrA, simprocAttr, ti76, ti160, ca128, cf, Tryz.results161]
  refine callK_intro (by simp only [zW, zX, zD, builtinA, isLeaf, const1, ustrA, simprocAttr] <;> rfl) (bld_wb n _ i (bs ++ [40] ++ txt a ++ [62] ++ txt b) 41 h5 (by simp; omega)) ?_ rfl
  rintro r A5 ⟨h6, g6⟩
  simp only [zW, zX, zD, builtinA, isLeaf, const1, ustrA, simprocAttr, ti76, ti160, ca128, cf, Tryz.results161]
  exact ⟨by simpa using h6, g1.trans (g2.trans (g3.trans (g4.trans (g5.trans g6))))⟩

theorem writeM : ∀ v, okV v = true → WriteM v
  | .num, _ => num_write
  | .nm m n, h => name_write m n (by have := nm_len h; intro e; simp [e] at this)
  | .fn a b, h => by
    simp [okV] at h
    exact fun_write a b (writeM a h.1) (writeM b h.2)

set_option maxRecDepth 100000 in
theorem impl_textOf (v : VT) (hv : VOk v) (A : List Box) : ACalls Tryz.prog 39 [.iface (vT v) (vX v)] A (fun r A' => r = .str (txt v) ∧ A' = A) := by
  have hc := hv.cnt
  have hl := txt_len v hv.ok
  refine acalls_enter (cf := cf 7 [0, 2, 3]) foll Tryz.func39 Tryz.ntmps39 (by simp [cf]) ?_
  simp only [Tryz.f39, EnterK_some, zW, zX, zD, builtinA, isLeaf, const1, ustrA, simprocAttr, ti115, ca70, cf, Tryz.results39]
  refine wpO_invoke _ _ _ _ _ _ _ _ _ _ _ _ _ _ _ _ ?_
  simp only [zW, zX, zD, builtinA, isLeaf, const1, ustrA, simprocAttr, ti115, ca70, cf, Tryz.results39]
  have hn : BldAt A.length (A ++ [Box.tc TB [AV.nilp, AV.nils]]) A.length [] := by
    refine ⟨by omega, by simp, .nilp, .nils, ?_, .inl rfl, .inl ⟨rfl, rfl⟩⟩
    rw [Abs.getD_append_right (by omega)]
    simp
  refine meth_invK (met3 (by kernel_rfl) (by kernel_rfl) (by kernel_rfl) (by kernel_rfl) (by kernel_rfl) (by kernel_rfl)) (writeM v hv.ok A.length _ A.length [] hn (by simp; omega)) rfl (fun _ => rfl) ?_
  rintro r A2 ⟨h2, g2⟩
  simp only [zW, zX, zD, builtinA, isLeaf, const1, ustrA, simprocAttr, ti115, ca70, cf, Tryz.results39]
  refine callK_intro (by simp only [zW, zX, zD, builtinA, isLeaf, const1, ustrA, simprocAttr] <;> rfl) (bld_str A.length _ A.length ([] ++ txt v) h2 (by simp; omega)) ?_ rfl
  rintro r A3 ⟨rfl, g3⟩
  have g := (g2.goes hn).trans g3
  simp only [zW, zX, zD, builtinA, isLeaf, const1, ustrA, simprocAttr, ti115, ca70, cf, Tryz.results39]
  exact ⟨g.outer, g.back⟩

end Go.Proofs.YtmgppdedcciogaaGreat
