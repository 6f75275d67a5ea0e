/- TypesMeth, SameSp, Zero. -/
import Derived.Test.YtnjdbgiincliaaaGreatR02
import Derived.Test.YtnjdbgiincliaaaGreatAbsW3
/- The methods that measure a valid type, and the functions that read one. -/
set_option linter.unusedVariables false
set_option linter.unusedSimpArgs false
namespace Go.Proofs.YtnjdbgiincliaaaGreat
open Go.Abs
def DepM (v : VT) : Prop:=∀ A,ACalls Tryz.prog ((pickF 428 435 357) v) [vX v] A (fun r A'=>r = .int .i64 (dep v) ∧ A' = A)
def CntM (v : VT) : Prop:=∀ A,ACalls Tryz.prog ((pickF 427 434 356) v) [vX v] A (fun r A'=>r = .int .i64 (cnt v) ∧ A' = A)
set_option maxRecDepth 100000 in
theorem num_depth : DepM .num:=fun A=>by
  show ACalls Tryz.prog 428 _ _ _
  rw [vX]
  refine acalls_enter (cf:=cf 3 [0,2]) foll Tryz.func428 Tryz.ntmps428 (by simp [cf]) ?_
  simp only [Tryz.f428,EnterK_some,zW,zX,zD,builtinA,isLeaf,const1,ustrA,simprocAttr,ti369,cf,Tryz.results428]
  simp [dep]
set_option maxRecDepth 100000 in
theorem name_depth (m n : List UInt8) : DepM (.nm m n):=fun A=>by
  show ACalls Tryz.prog 357 _ _ _
  rw [vX]
  refine acalls_enter (cf:=cf 3 [0,2]) foll Tryz.func357 Tryz.ntmps357 (by simp [cf]) ?_
  simp only [Tryz.f357,EnterK_some,zW,zX,zD,builtinA,isLeaf,const1,ustrA,simprocAttr,ti180,cf,Tryz.results357]
  simp [dep]
set_option maxRecDepth 100000 in
theorem num_count : CntM .num:=fun A=>by
  show ACalls Tryz.prog 427 _ _ _
  rw [vX]
  refine acalls_enter (cf:=cf 3 [0,2]) foll Tryz.func427 Tryz.ntmps427 (by simp [cf]) ?_
  simp only [Tryz.f427,EnterK_some,zW,zX,zD,builtinA,isLeaf,const1,ustrA,simprocAttr,ti369,cf,Tryz.results427]
  simp [cnt]
set_option maxRecDepth 100000 in
theorem name_count (m n : List UInt8) : CntM (.nm m n):=fun A=>by
  show ACalls Tryz.prog 356 _ _ _
  rw [vX]
  refine acalls_enter (cf:=cf 3 [0,2]) foll Tryz.func356 Tryz.ntmps356 (by simp [cf]) ?_
  simp only [Tryz.f356,EnterK_some,zW,zX,zD,builtinA,isLeaf,const1,ustrA,simprocAttr,ti180,cf,Tryz.results356]
  simp [cnt]
set_option maxRecDepth 100000 in
theorem fun_depth (a b : VT) (ha : DepM a) (hb : DepM b) (hd : dep a < 1000 ∧ dep b < 1000) : DepM (.fn a b):=fun A=>by
  show ACalls Tryz.prog 435 _ _ _
  rw [vX]
  refine acalls_enter (cf:=cf 11 [0,1,2]) foll Tryz.func435 Tryz.ntmps435 (by simp [cf]) ?_
  simp only [Tryz.f435,EnterK_some,zW,zX,zD,builtinA,isLeaf,const1,ustrA,simprocAttr,ti3,ti175,ti422,cf,Tryz.results435]
  refine .inl ⟨by kernel_rfl,by kernel_rfl,?_⟩
  refine wpD_invoke _ _ _ _ _ _ _ _ _ _ _ _ _ _ _ _ ?_
  simp only [zW,zX,zD,builtinA,isLeaf,const1,ustrA,simprocAttr,ti3,ti175,ti422,cf,Tryz.results435]
  refine meth_invD (met3 (by kernel_rfl) (by kernel_rfl) (by kernel_rfl) (by kernel_rfl) (by kernel_rfl) (by kernel_rfl)) (ha _) rfl (fun _=>rfl) ?_
  simp only [zW,zX,zD,builtinA,isLeaf,const1,ustrA,simprocAttr,ti3,ti175,ti422,cf,Tryz.results435]
  refine wpD_invoke _ _ _ _ _ _ _ _ _ _ _ _ _ _ _ _ ?_
  simp only [zW,zX,zD,builtinA,isLeaf,const1,ustrA,simprocAttr,ti3,ti175,ti422,cf,Tryz.results435]
  refine meth_invD (met3 (by kernel_rfl) (by kernel_rfl) (by kernel_rfl) (by kernel_rfl) (by kernel_rfl) (by kernel_rfl)) (hb _) rfl (fun _=>rfl) ?_
  simp only [zW,zX,zD,builtinA,isLeaf,const1,ustrA,simprocAttr,ti3,ti175,ti422,cf,Tryz.results435]
  rw [wrap64 (by split <;> omega) (by split <;> omega),dep]
  congr 1
  split <;> omega
set_option maxRecDepth 100000 in
theorem fun_count (a b : VT) (ha : CntM a) (hb : CntM b) (hd : cnt a < 100000 ∧ cnt b < 100000) : CntM (.fn a b):=fun A=>by
  show ACalls Tryz.prog 434 _ _ _
  rw [vX]
  refine acalls_enter (cf:=cf 11 [0,1,2]) foll Tryz.func434 Tryz.ntmps434 (by simp [cf]) ?_
  simp only [Tryz.f434,EnterK_some,zW,zX,zD,builtinA,isLeaf,const1,ustrA,simprocAttr,ti3,ti175,ti422,cf,Tryz.results434]
  refine .inl ⟨by kernel_rfl,by kernel_rfl,?_⟩
  refine wpD_invoke _ _ _ _ _ _ _ _ _ _ _ _ _ _ _ _ ?_
  simp only [zW,zX,zD,builtinA,isLeaf,const1,ustrA,simprocAttr,ti3,ti175,ti422,cf,Tryz.results434]
  refine meth_invD (met3 (by kernel_rfl) (by kernel_rfl) (by kernel_rfl) (by kernel_rfl) (by kernel_rfl) (by kernel_rfl)) (ha _) rfl (fun _=>rfl) ?_
  simp only [zW,zX,zD,builtinA,isLeaf,const1,ustrA,simprocAttr,ti3,ti175,ti422,cf,Tryz.results434]
  refine wpD_invoke _ _ _ _ _ _ _ _ _ _ _ _ _ _ _ _ ?_
  simp only [zW,zX,zD,builtinA,isLeaf,const1,ustrA,simprocAttr,ti3,ti175,ti422,cf,Tryz.results434]
  refine meth_invD (met3 (by kernel_rfl) (by kernel_rfl) (by kernel_rfl) (by kernel_rfl) (by kernel_rfl) (by kernel_rfl)) (hb _) rfl (fun _=>rfl) ?_
  simp only [zW,zX,zD,builtinA,isLeaf,const1,ustrA,simprocAttr,ti3,ti175,ti422,cf,Tryz.results434]
  have h1 : IntKind.i64.wrap (1 + (cnt a : Int)) = 1 + cnt a:=wrap64 (by omega) (by omega)
  rw [h1,wrap64 (by omega) (by omega),cnt]
  congr 1
theorem depM : ∀ v,dep v ≤ 9 → DepM v
  | .num,_=>num_depth
  | .nm m n,_=>name_depth m n
  | .fn a b,h=>by
    rw [dep] at h
    exact fun_depth a b (depM a (by omega)) (depM b (by omega)) (by omega)
theorem cntM : ∀ v,cnt v < 100000 → CntM v
  | .num,_=>num_count
  | .nm m n,_=>name_count m n
  | .fn a b,h=>by
    rw [cnt] at h
    exact fun_count a b (cntM a (by omega)) (cntM b (by omega)) (by omega)
set_option maxRecDepth 100000 in
theorem impl_withinLimits (v : VT) (hd : dep v ≤ 9) (A : List Box) : ACalls Tryz.prog 199 [.iface (vT v) (vX v)] A (fun r A'=>r = .bool (decide (dep v ≤ 8) && decide (cnt v ≤ 63)) ∧ A' = A):=by
  have hc:=cnt_lt hd
  refine acalls_enter (cf:=cf 11 [0,2]) foll Tryz.func199 Tryz.ntmps199 (by simp [cf]) ?_
  simp only [Tryz.f199,EnterK_some,zW,zX,zD,builtinA,isLeaf,const1,ustrA,simprocAttr,ti3,cf,Tryz.results199]
  refine wpO_invoke _ _ _ _ _ _ _ _ _ _ _ _ _ _ _ _ ?_
  simp only [zW,zX,zD,builtinA,isLeaf,const1,ustrA,simprocAttr,ti3,cf,Tryz.results199]
  refine meth_invK (met3 (by kernel_rfl) (by kernel_rfl) (by kernel_rfl) (by kernel_rfl) (by kernel_rfl) (by kernel_rfl)) (depM v hd _) rfl (fun _=>rfl) ?_
  rintro v A' ⟨rfl,rfl⟩
  simp only [zW,zX,zD,builtinA,isLeaf,const1,ustrA,simprocAttr,ti3,cf,Tryz.results199]
  by_cases h8 : dep v ≤ 8
  · have e8 : decide ((dep v : Int) ≤ 8) = true:=decide_eq_true (by omega)
    rw [decide_eq_true h8]
    simp only [zW,zX,zD,builtinA,isLeaf,const1,ustrA,simprocAttr,ti3,cf,Tryz.results199,e8]
    refine wpO_invoke _ _ _ _ _ _ _ _ _ _ _ _ _ _ _ _ ?_
    simp only [zW,zX,zD,builtinA,isLeaf,const1,ustrA,simprocAttr,ti3,cf,Tryz.results199]
    refine meth_invK (met3 (by kernel_rfl) (by kernel_rfl) (by kernel_rfl) (by kernel_rfl) (by kernel_rfl) (by kernel_rfl)) (cntM v (by omega) _) rfl (fun _=>rfl) ?_
    rintro v A' ⟨rfl,rfl⟩
    simp only [zW,zX,zD,builtinA,isLeaf,const1,ustrA,simprocAttr,ti3,cf,Tryz.results199]
    simp
    omega
  · have e8 : decide ((dep v : Int) ≤ 8) = false:=decide_eq_false (by omega)
    rw [decide_eq_false h8]
    simp only [zW,zX,zD,builtinA,isLeaf,const1,ustrA,simprocAttr,ti3,cf,Tryz.results199,e8]
set_option maxRecDepth 100000 in
theorem impl_readType (τ : Ty) (A : List Box) : ACalls Tryz.prog 111 [.agg (enc τ)] A (fun r A'=>((∃ v,τ = toTy v ∧ VOk v ∧ r = .tuple [.iface (vT v) (vX v),.bool true]) ∨ (validB τ = false ∧ r = .tuple [.nili,.bool false])) ∧ A' = A):=by
  refine acalls_enter (cf:=cf 19 [0,1,2,3,4,5,17]) foll Tryz.func111 Tryz.ntmps111 (by simp [cf]) ?_
  simp only [Tryz.f111,EnterK_some,zW,zX,zD,builtinA,isLeaf,const1,ustrA,simprocAttr,ti36,ca198,ca199,cf,Tryz.results111]
  simp only [enc_take]
  refine ⟨by rw [enc_length]; omega,?_⟩
  refine callK_intro (by simp only [zW,zX,zD,builtinA,isLeaf,const1,ustrA,simprocAttr,frzL_enc,Option.map_some]; rfl) (impl_readNode τ _ _ (by omega) (by omega)) ?_ rfl; rintro v A' ⟨rfl,rfl⟩
  cases hr : (readO τ 1).2 with
  | false =>
    have hv : validB τ = false:=by
      rcases valid_cases τ with ⟨v,rfl,hv⟩ | h
      · have:=hv.dep
        rw [readO_toTy v 1 hv.ok (by omega)] at hr
        cases hr
      · exact h
    simp only [zW,zX,zD,builtinA,isLeaf,const1,ustrA,simprocAttr,ti36,ca198,ca199,cf,Tryz.results111]
    exact .inr hv
  | true =>
    obtain ⟨v,rfl,hv,hd⟩:=readO_of τ 1 hr
    have hro:=readO_toTy v 1 hv hd
    have hcl:=cnt_lt (v:=v) (k:=9) (by omega)
    rw [hro]
    simp only [ifA]
    simp only [zW,zX,zD,builtinA,isLeaf,const1,ustrA,simprocAttr,ti36,ca198,ca199,cf,Tryz.results111]
    refine callK_intro (by simp only [zW,zX,zD,builtinA,isLeaf,const1,ustrA,simprocAttr]; rfl) (impl_withinLimits v (by omega) _) ?_ rfl; rintro v A' ⟨rfl,rfl⟩
    by_cases hc : cnt v ≤ 63
    · have h8 : dep v ≤ 8:=by omega
      rw [decide_eq_true hc,decide_eq_true h8]
      simp only [zW,zX,zD,builtinA,isLeaf,const1,ustrA,simprocAttr,ti36,ca198,ca199,cf,Tryz.results111]
      exact .inl ⟨v,rfl,⟨hv,h8,hc⟩,rfl⟩
    · have hn : validB (toTy v) = false:=by
        rw [validB,count_toTy,decide_eq_false hc,Bool.and_false]
      rw [decide_eq_false hc]
      simp only [zW,zX,zD,builtinA,isLeaf,const1,ustrA,simprocAttr,ti36,ca198,ca199,cf,Tryz.results111]
      exact .inr hn
end Go.Proofs.YtnjdbgiincliaaaGreat
/- The document's TypeSame, by itself. -/
set_option linter.unusedVariables false
set_option linter.unusedSimpArgs false
namespace Go.Proofs.YtnjdbgiincliaaaGreat
open Go.Abs
theorem gdS {α : Type} (l : List α) (i : Nat) (d : α) (h : i < l.length) : l.getD i d = l[i]:=by simp [List.getD,h]
theorem take_eq_all {l l' : List Ty} (hl : l.length = l'.length) (h : ∀ i,i < l.length → l.getD i ty0 = l'.getD i ty0) : l = l':=by
  apply List.ext_getElem hl
  intro i hi hi'
  have:=h i hi
  rw [gdS _ _ _ hi,gdS _ _ _ hi'] at this
  exact this
set_option maxRecDepth 100000 in
set_option maxHeartbeats 2000000 in
theorem spec_TypeSame (σ : Ty) (hσ : σ.Ok) : ∀ (τ : Ty) (A : List Box),ACalls Tryz.prog 249 [.agg (enc σ),.agg (enc τ)] A (fun r A'=>r = .bool (decide (σ = τ)) ∧ A' = A):=by
  induction σ using Ty.ind with
  | h k m n ks ih =>
    rintro ⟨k',m',n',ks'⟩ A
    obtain ⟨hm,hn,hks,hok⟩:=hσ
    rw [enc,enc]
    by_cases h1 : k = k'
    · by_cases h2 : m = m'
      · by_cases h3 : n = n'
        · by_cases h4 : ks.length = ks'.length
          · have g1 : decide (k = k') = true:=decide_eq_true h1
            have g2 : decide (m = m') = true:=decide_eq_true h2
            have g3 : decide (n = n') = true:=decide_eq_true h3
            have g4 : decide (((ks.length : Nat) : Int) = (ks'.length : Nat)) = true:=decide_eq_true (by omega)
            refine acalls_enter (cf:=cf 53 [0,1,2,3,4,5,33,38,52]) foll Tryz.func249 Tryz.ntmps249 (by simp [cf]) ?_
            simp only [Tryz.f249,EnterK_some,zW,zX,zD,builtinA,isLeaf,const1,ustrA,simprocAttr,ti3,ti9,ti34,ti36,ca249,cf,Tryz.results249]
            simp only [zW,zX,zD,builtinA,isLeaf,const1,ustrA,simprocAttr,ti3,ti9,ti34,ti36,ca249,cf,Tryz.results249,g1,g2,g3,g4,encs_length,Bool.not_true]
            refine aloop_intro [2,3,5] (fun e A'=>∃ i,i ≤ ks.length ∧ e = [(2,.ptr A.length 0),(3,.ptr (A.length + 1) 0),(5,.int .i64 i)] ∧ A' = A ++ [.cells [.int .i64 k,.str m,.str n,.slice (encs ks)],.cells [.int .i64 k',.str m',.str n',.slice (encs ks')]] ∧ ∀ j,j < i → ks.getD j ty0 = ks'.getD j ty0) (fun e _=>ks.length - (intOf (Abs.look 5 e)).toNat) ?_ ?_
            · simp only [zW,zX,zD,builtinA,isLeaf,const1,ustrA,simprocAttr,ti3,ti9,ti34,ti36,ca249,cf,Tryz.results249]
              exact ⟨0,by omega,rfl,by simp⟩
            · rintro e A' ⟨i,hi,rfl,rfl,heq⟩
              have hl' : (encs ks').length = ks.length:=(encs_length _).trans h4.symm
              by_cases hlt : i < ks.length
              · have hlt1 : decide (((i : Nat) : Int) < (ks.length : Nat)) = true:=decide_eq_true (by omega)
                have he:=encs_getD hlt
                have he':=encs_getD (show i < ks'.length by omega)
                have hm:=getD_mem hlt
                have hi1 : IntKind.i64.wrap ((i : Int) + 1) = ((i + 1 : Nat) : Int):=by rw [wrap64 (by omega) (by omega)]; rfl
                simp only [zW,zX,zD,builtinA,isLeaf,const1,ustrA,simprocAttr,ti3,ti9,ti34,ti36,ca249,cf,Tryz.results249,hlt1,he,he',hl',enc_length,enc_take,encs_length]
                refine .inl ⟨by kernel_rfl,by kernel_rfl,⟨by omega,by omega⟩,⟨by omega,by omega⟩,?_⟩
                refine callD_intro (by simp only [zW,zX,zD,builtinA,isLeaf,const1,ustrA,simprocAttr,frzL_enc,Option.map_some] <;> rfl) (ih _ hm (hok _ hm) (ks'.getD i ty0) _) ?_ rfl
                by_cases hq : ks.getD i ty0 = ks'.getD i ty0
                · simp only [zW,zX,zD,builtinA,isLeaf,const1,ustrA,simprocAttr,ti3,ti9,ti34,ti36,ca249,cf,Tryz.results249,decide_eq_true hq,Bool.not_true,hi1,LoopK_eq]
                  refine ⟨⟨i + 1,by omega,rfl,fun j hj=>?_⟩,?_⟩
                  · rcases Nat.lt_or_ge j i with h | h
                    · exact heq j h
                    · obtain rfl : j = i:=by omega
                      exact hq
                  · simp only [intOf]
                    omega
                · have hd : decide (Ty.mk k m n ks = Ty.mk k' m' n' ks') = false:=decide_eq_false (fun e=>by injection e with _ _ _ e; exact hq (by rw [e]))
                  rw [hd]
                  simp only [zW,zX,zD,builtinA,isLeaf,const1,ustrA,simprocAttr,ti3,ti9,ti34,ti36,ca249,cf,Tryz.results249,decide_eq_false hq,Bool.not_false]
              · have hlt1 : decide (((i : Nat) : Int) < (ks.length : Nat)) = false:=decide_eq_false (by omega)
                have : ks = ks':=take_eq_all h4 fun j hj=>heq j (by omega)
                have hd : decide (Ty.mk k m n ks = Ty.mk k' m' n' ks') = true:=decide_eq_true (by rw [h1,h2,h3,this])
                simp only [zW,zX,zD,builtinA,isLeaf,const1,ustrA,simprocAttr,ti3,ti9,ti34,ti36,ca249,cf,Tryz.results249,hlt1,hl',encs_length]
                rw [hd]
          · have hd : decide (Ty.mk k m n ks = Ty.mk k' m' n' ks') = false:=decide_eq_false (fun e=>by injection e with _ _ _ e; exact h4 (congrArg _ e))
            rw [hd]
            refine acalls_enter (cf:=cf 53 [0,1,2,3,4,5,33,38,52]) foll Tryz.func249 Tryz.ntmps249 (by simp [cf]) ?_
            simp only [Tryz.f249,EnterK_some,zW,zX,zD,builtinA,isLeaf,const1,ustrA,simprocAttr,ti3,ti9,ti34,ti36,ca249,cf,Tryz.results249]
            simp only [zW,zX,zD,builtinA,isLeaf,const1,ustrA,simprocAttr,ti3,ti9,ti34,ti36,ca249,cf,Tryz.results249,decide_eq_true h1,decide_eq_true h2,decide_eq_true h3,(decide_eq_false (by omega) : decide (((ks.length : Nat) : Int) = (ks'.length : Nat)) = false),encs_length,Bool.not_true,Bool.not_false]
        · have hd : decide (Ty.mk k m n ks = Ty.mk k' m' n' ks') = false:=decide_eq_false (fun e=>by injection e with _ _ e _; exact h3 e)
          rw [hd]
          refine acalls_enter (cf:=cf 53 [0,1,2,3,4,5,33,38,52]) foll Tryz.func249 Tryz.ntmps249 (by simp [cf]) ?_
          simp only [Tryz.f249,EnterK_some,zW,zX,zD,builtinA,isLeaf,const1,ustrA,simprocAttr,ti3,ti9,ti34,ti36,ca249,cf,Tryz.results249]
          simp only [zW,zX,zD,builtinA,isLeaf,const1,ustrA,simprocAttr,ti3,ti9,ti34,ti36,ca249,cf,Tryz.results249,decide_eq_true h1,decide_eq_true h2,decide_eq_false h3,Bool.not_true,Bool.not_false]
      · have hd : decide (Ty.mk k m n ks = Ty.mk k' m' n' ks') = false:=decide_eq_false (fun e=>by injection e with _ e _ _; exact h2 e)
        rw [hd]
        refine acalls_enter (cf:=cf 53 [0,1,2,3,4,5,33,38,52]) foll Tryz.func249 Tryz.ntmps249 (by simp [cf]) ?_
        simp only [Tryz.f249,EnterK_some,zW,zX,zD,builtinA,isLeaf,const1,ustrA,simprocAttr,ti3,ti9,ti34,ti36,ca249,cf,Tryz.results249]
        simp only [zW,zX,zD,builtinA,isLeaf,const1,ustrA,simprocAttr,ti3,ti9,ti34,ti36,ca249,cf,Tryz.results249,decide_eq_true h1,decide_eq_false h2,Bool.not_true,Bool.not_false]
    · have hd : decide (Ty.mk k m n ks = Ty.mk k' m' n' ks') = false:=decide_eq_false (fun e=>by injection e with e _ _ _; exact h1 e)
      rw [hd]
      refine acalls_enter (cf:=cf 53 [0,1,2,3,4,5,33,38,52]) foll Tryz.func249 Tryz.ntmps249 (by simp [cf]) ?_
      simp only [Tryz.f249,EnterK_some,zW,zX,zD,builtinA,isLeaf,const1,ustrA,simprocAttr,ti3,ti9,ti34,ti36,ca249,cf,Tryz.results249]
      simp only [zW,zX,zD,builtinA,isLeaf,const1,ustrA,simprocAttr,ti3,ti9,ti34,ti36,ca249,cf,Tryz.results249,decide_eq_false h1,Bool.not_true,Bool.not_false]
end Go.Proofs.YtnjdbgiincliaaaGreat
/- Comparisons with the zero type. -/
set_option linter.unusedVariables false
set_option linter.unusedSimpArgs false
namespace Go.Proofs.YtnjdbgiincliaaaGreat
open Go.Abs
set_option maxRecDepth 100000 in
theorem spec_l2Zero (τ : Ty) (A : List Box) : ACalls Tryz.prog 247 [.agg (enc τ)] A (fun r A'=>r = .bool (decide (τ = ty0)) ∧ A' = A):=by
  obtain ⟨k,m,n,ks⟩:=τ
  have hr : decide (Ty.mk k m n ks = ty0) = (((decide (k = 0) && decide (m = [])) && decide (n = [])) && decide (ks = [])):=by
    rw [Bool.eq_iff_iff]; simp [ty0,and_assoc]
  have hl : decide (((encs ks).length : Int) = 0) = decide (ks = []):=by
    rw [Bool.eq_iff_iff,encs_length]; simp only [decide_eq_true_eq]
    constructor
    · intro h; exact List.length_eq_zero_iff.1 (by omega)
    · rintro rfl; rfl
  rw [enc,hr]
  refine acalls_enter (cf:=cf 22 [0,1,2]) foll Tryz.func247 Tryz.ntmps247 (by simp [cf]) ?_
  simp only [Tryz.f247,EnterK_some,zW,zX,zD,builtinA,isLeaf,const1,ustrA,simprocAttr,ti3,ti9,ti34,ti36,cf,Tryz.results247]
  by_cases h1 : k = 0
  · by_cases h2 : m = []
    · by_cases h3 : n = []
      · simp only [zW,zX,zD,builtinA,isLeaf,const1,ustrA,simprocAttr,ti3,ti9,ti34,ti36,cf,Tryz.results247,decide_eq_true h1,decide_eq_true h2,decide_eq_true h3,hl]
      · simp only [zW,zX,zD,builtinA,isLeaf,const1,ustrA,simprocAttr,ti3,ti9,ti34,ti36,cf,Tryz.results247,decide_eq_true h1,decide_eq_true h2,decide_eq_false h3,hl]
    · simp only [zW,zX,zD,builtinA,isLeaf,const1,ustrA,simprocAttr,ti3,ti9,ti34,ti36,cf,Tryz.results247,decide_eq_true h1,decide_eq_false h2,hl]
  · simp only [zW,zX,zD,builtinA,isLeaf,const1,ustrA,simprocAttr,ti3,ti9,ti34,ti36,cf,Tryz.results247,decide_eq_false h1,hl]
end Go.Proofs.YtnjdbgiincliaaaGreat
