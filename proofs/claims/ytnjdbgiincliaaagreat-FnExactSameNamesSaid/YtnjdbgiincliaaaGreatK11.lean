/- StItem, UnVal. -/
import Derived.Test.YtnjdbgiincliaaaGreatK10
import Derived.Test.YtnjdbgiincliaaaGreatAbsW3
/- The model's StructValid. -/
set_option linter.unusedVariables false
set_option linter.unusedSimpArgs false
namespace Go.Proofs.YtnjdbgiincliaaaGreat
open Go.Abs
theorem iT4 (t : Ty) : enc t = [.int .i64 t.kind,.str t.mod,.str t.name,.slice (encs t.kids)]:=by cases t; rw [enc]; rfl
theorem iX9 (x : ItI) : encX x.ex = [.int .i64 x.xk,.int .i64 x.xi,.str x.xm,.str x.xn,.int .i64 x.xt.kind,.str x.xt.mod,.str x.xt.name,.slice (encs x.xt.kids),.slice (encXs x.xs)]:=by rw [ItI.ex,encX]
set_option maxRecDepth 100000 in
theorem spec_l4None (k i : Int) (m n : List UInt8) (t : Ty) (ks : List Ex) (A : List Box) : ACalls Tryz.prog 294 [.agg (encX (.mk k i m n t ks))] A (fun r A'=>(r = .bool true ∧ Ex.mk k i m n t ks = ex0 ∨ r = .bool false ∧ Ex.mk k i m n t ks ≠ ex0) ∧ A' = A):=by
  have hz:=fun A=>spec_l2Zero t A
  rw [iT4] at hz
  have hl : decide (((encXs ks).length : Int) = 0) = decide (ks = []):=by
    rw [Bool.eq_iff_iff,encXs_length]; simp only [decide_eq_true_eq]
    constructor
    · intro h; exact List.length_eq_zero_iff.1 (by omega)
    · rintro rfl; rfl
  rw [encX]
  have no : ∀ {p : Prop},¬ p → (Ex.mk k i m n t ks = ex0 → p) → Ex.mk k i m n t ks ≠ ex0:=fun h f e=>h (f e)
  by_cases h1 : k = 0
  · by_cases h2 : i = 0
    · by_cases h3 : m = []
      · by_cases h4 : n = []
        · by_cases h5 : t = ty0
          · refine acalls_enter (cf:=cf 32 [0,1,2]) foll Tryz.func294 Tryz.ntmps294 (by simp [cf]) ?_
            simp only [Tryz.f294,EnterK_some,zW,zX,zD,builtinA,isLeaf,const1,ustrA,simprocAttr,ti3,ti9,ti36,ti37,ti39,ca247,cf,Tryz.results294]
            simp only [zW,zX,zD,builtinA,isLeaf,const1,ustrA,simprocAttr,ti3,ti9,ti36,ti37,ti39,ca247,cf,Tryz.results294,decide_eq_true h1,decide_eq_true h2,decide_eq_true h3,decide_eq_true h4,hl]
            refine callK_intro (by simp only [zW,zX,zD,builtinA,isLeaf,const1,ustrA,simprocAttr,Option.map_some]; rfl) (hz _) ?_ rfl; rintro v A' ⟨rfl,rfl⟩
            simp only [zW,zX,zD,builtinA,isLeaf,const1,ustrA,simprocAttr,ti3,ti9,ti36,ti37,ti39,ca247,cf,Tryz.results294,decide_eq_true h5,hl]
            by_cases h6 : ks = []
            · rw [h1,h2,h3,h4,h5,h6]; simp [ex0]
            · simp [h6,ex0]
          · refine acalls_enter (cf:=cf 32 [0,1,2]) foll Tryz.func294 Tryz.ntmps294 (by simp [cf]) ?_
            simp only [Tryz.f294,EnterK_some,zW,zX,zD,builtinA,isLeaf,const1,ustrA,simprocAttr,ti3,ti9,ti36,ti37,ti39,ca247,cf,Tryz.results294]
            simp only [zW,zX,zD,builtinA,isLeaf,const1,ustrA,simprocAttr,ti3,ti9,ti36,ti37,ti39,ca247,cf,Tryz.results294,decide_eq_true h1,decide_eq_true h2,decide_eq_true h3,decide_eq_true h4,hl]
            refine callK_intro (by simp only [zW,zX,zD,builtinA,isLeaf,const1,ustrA,simprocAttr,Option.map_some]; rfl) (hz _) ?_ rfl; rintro v A' ⟨rfl,rfl⟩
            simp only [zW,zX,zD,builtinA,isLeaf,const1,ustrA,simprocAttr,ti3,ti9,ti36,ti37,ti39,ca247,cf,Tryz.results294,decide_eq_false h5,hl]
            simp [h5,ex0]
        · refine acalls_enter (cf:=cf 32 [0,1,2]) foll Tryz.func294 Tryz.ntmps294 (by simp [cf]) ?_
          simp only [Tryz.f294,EnterK_some,zW,zX,zD,builtinA,isLeaf,const1,ustrA,simprocAttr,ti3,ti9,ti36,ti37,ti39,ca247,cf,Tryz.results294]
          simp only [zW,zX,zD,builtinA,isLeaf,const1,ustrA,simprocAttr,ti3,ti9,ti36,ti37,ti39,ca247,cf,Tryz.results294,decide_eq_true h1,decide_eq_true h2,decide_eq_true h3,decide_eq_false h4,hl]
          simp [h4,ex0]
      · refine acalls_enter (cf:=cf 32 [0,1,2]) foll Tryz.func294 Tryz.ntmps294 (by simp [cf]) ?_
        simp only [Tryz.f294,EnterK_some,zW,zX,zD,builtinA,isLeaf,const1,ustrA,simprocAttr,ti3,ti9,ti36,ti37,ti39,ca247,cf,Tryz.results294]
        simp only [zW,zX,zD,builtinA,isLeaf,const1,ustrA,simprocAttr,ti3,ti9,ti36,ti37,ti39,ca247,cf,Tryz.results294,decide_eq_true h1,decide_eq_true h2,decide_eq_false h3,hl]
        simp [h3,ex0]
    · refine acalls_enter (cf:=cf 32 [0,1,2]) foll Tryz.func294 Tryz.ntmps294 (by simp [cf]) ?_
      simp only [Tryz.f294,EnterK_some,zW,zX,zD,builtinA,isLeaf,const1,ustrA,simprocAttr,ti3,ti9,ti36,ti37,ti39,ca247,cf,Tryz.results294]
      simp only [zW,zX,zD,builtinA,isLeaf,const1,ustrA,simprocAttr,ti3,ti9,ti36,ti37,ti39,ca247,cf,Tryz.results294,decide_eq_true h1,decide_eq_false h2,hl]
      simp [h2,ex0]
  · refine acalls_enter (cf:=cf 32 [0,1,2]) foll Tryz.func294 Tryz.ntmps294 (by simp [cf]) ?_
    simp only [Tryz.f294,EnterK_some,zW,zX,zD,builtinA,isLeaf,const1,ustrA,simprocAttr,ti3,ti9,ti36,ti37,ti39,ca247,cf,Tryz.results294]
    simp only [zW,zX,zD,builtinA,isLeaf,const1,ustrA,simprocAttr,ti3,ti9,ti36,ti37,ti39,ca247,cf,Tryz.results294,decide_eq_false h1,hl]
    simp [h1,ex0]
def DefP (s : List ItI) (x : ItI) : Prop:=localB x.name = true ∧ hasD s x.kind x.name = false ∧
  ((x.kind = 1 ∧ x.ex = ex0 ∧ ∃ v,x.typ = toTy v ∧ VOk v ∧ allV (kT s) v = true) ∨ (x.kind = 2 ∧ x.typ = ty0 ∧ ∃ e,x.ex = toX e ∧ EOk e ∧ mostE e 0 = 0 ∧ allE (kV s) (kT s) e = true))
open Classical in
noncomputable def defB (s : List ItI) (x : ItI) : Bool:=decide (DefP s x)
theorem defB_yes {s : List ItI} {x : ItI} (h : DefP s x) : defB s x = true:=by simp [defB,h]
theorem defB_no {s : List ItI} {x : ItI} (h : ¬ DefP s x) : defB s x = false:=by simp [defB,h]
theorem defB_iff {s : List ItI} {x : ItI} {b : Bool} (h : b = true ↔ DefP s x) : b = defB s x:=by
  cases b with
  | true=>rw [defB_yes (h.1 rfl)]
  | false=>rw [defB_no fun k=>by have:=h.2 k; cases this]
set_option maxRecDepth 100000 in
set_option maxHeartbeats 1000000 in
theorem spec_l4Item (s : List ItI) (hs : s.length ≤ 1048576) (x : ItI) (hx : x.Ok) (hz : szJ x ≤ 1048576) (A : List Box) : ACalls Tryz.prog 268 [.slice (iEs s),.agg (iE x)] A (fun r A'=>r = .bool (defB s x) ∧ A' = A):=by
  have hzt : sz x.typ ≤ 1048576:=by unfold szJ at hz; omega
  have hzx : szX x.ex ≤ 1048576:=by unfold szJ at hz; omega
  have htv:=fun A=>spec_TypeValid x.typ hx.2.1 hzt A
  have hxv:=fun A=>spec_ExprValid x.ex hx.2.2 hzx A
  have htz:=fun A=>spec_l2Zero x.typ A
  have hxn:=fun A=>spec_l4None x.xk x.xi x.xm x.xn x.xt x.xs A
  have hkt:=fun v (hv : VOk v) (e : x.typ = toTy v) A=>spec_l4KnownType s hs v hv.1 (by have:=hv.cnt; omega) A
  have hkx:=fun v (hv : EOk v) (e : x.ex = toX v) A=>spec_l4Known s hs v hv A
  have hms:=fun v (hv : EOk v) (e : x.ex = toX v) A=>spec_l4Most v 0 A hv.ok (by omega) (by have:=hv.dep; omega)
  have hxe : Ex.mk x.xk x.xi x.xm x.xn x.xt x.xs = x.ex:=rfl
  rw [hxe] at hxn
  rw [iX9] at hxn hxv
  rw [iT4] at htv htz
  have hkt2 : ∀ v,VOk v → x.typ = toTy v → ∀ A,ACalls Tryz.prog 295 [.slice (iEs s),.agg [.int .i64 x.typ.kind,.str x.typ.mod,.str x.typ.name,.slice (encs x.typ.kids)]] A (fun r A'=>r = .bool (allV (kT s) v) ∧ A' = A):=fun v hv e A=>by
    rw [← iT4,e]; exact hkt v hv e A
  have hkx2 : ∀ v,EOk v → x.ex = toX v → ∀ A,ACalls Tryz.prog 296 [.slice (iEs s),.agg [.int .i64 x.xk,.int .i64 x.xi,.str x.xm,.str x.xn,.int .i64 x.xt.kind,.str x.xt.mod,.str x.xt.name,.slice (encs x.xt.kids),.slice (encXs x.xs)]] A (fun r A'=>r = .bool (allE (kV s) (kT s) v) ∧ A' = A):=fun v hv e A=>by
    rw [← iX9,e]; exact hkx v hv e A
  have hms2 : ∀ v,EOk v → x.ex = toX v → ∀ A,ACalls Tryz.prog 155 [.agg [.int .i64 x.xk,.int .i64 x.xi,.str x.xm,.str x.xn,.int .i64 x.xt.kind,.str x.xt.mod,.str x.xt.name,.slice (encs x.xt.kids),.slice (encXs x.xs)],.int .i64 0] A (fun r A'=>r = .int .i64 (mostE v 0) ∧ A' = A):=fun v hv e A=>by
    rw [← iX9,e]; exact hms v hv e A
  clear hkt hkx hms
  rw [iE]
  cases hl : localB x.name with
  | false =>
    have hb : defB s x = false:=defB_no fun h=>by rw [h.1] at hl; cases hl
    refine acalls_enter (cf:=cf 57 [0,1,3,4,16,18,19,35]) foll Tryz.func268 Tryz.ntmps268 (by simp [cf]) ?_
    simp only [Tryz.f268,EnterK_some,zW,zX,zD,builtinA,isLeaf,const1,ustrA,simprocAttr,ti3,ti9,ti36,ti39,ti304,ca80,ca121,ca155,ca245,ca247,ca293,ca294,ca295,ca296,cf,Tryz.results268]
    refine callK_intro (by simp only [zW,zX,zD,builtinA,isLeaf,const1,ustrA,simprocAttr,Option.map_some]; rfl) (spec_LocalName x.name _) ?_ rfl; rintro v A' ⟨rfl,rfl⟩
    simp only [zW,zX,zD,builtinA,isLeaf,const1,ustrA,simprocAttr,ti3,ti9,ti36,ti39,ti304,ca80,ca121,ca155,ca245,ca247,ca293,ca294,ca295,ca296,cf,Tryz.results268,hl,hb]
  | true =>
    cases hd : hasD s x.kind x.name with
    | true =>
      have hb : defB s x = false:=defB_no fun h=>by rw [h.2.1] at hd; cases hd
      refine acalls_enter (cf:=cf 57 [0,1,3,4,16,18,19,35]) foll Tryz.func268 Tryz.ntmps268 (by simp [cf]) ?_
      simp only [Tryz.f268,EnterK_some,zW,zX,zD,builtinA,isLeaf,const1,ustrA,simprocAttr,ti3,ti9,ti36,ti39,ti304,ca80,ca121,ca155,ca245,ca247,ca293,ca294,ca295,ca296,cf,Tryz.results268]
      refine callK_intro (by simp only [zW,zX,zD,builtinA,isLeaf,const1,ustrA,simprocAttr,Option.map_some]; rfl) (spec_LocalName x.name _) ?_ rfl; rintro v A' ⟨rfl,rfl⟩
      simp only [zW,zX,zD,builtinA,isLeaf,const1,ustrA,simprocAttr,ti3,ti9,ti36,ti39,ti304,ca80,ca121,ca155,ca245,ca247,ca293,ca294,ca295,ca296,cf,Tryz.results268,hl]
      refine callK_intro (by simp only [zW,zX,zD,builtinA,isLeaf,const1,ustrA,simprocAttr,Option.map_some]; rfl) (spec_l4Before s hs x.kind x.name _) ?_ rfl; rintro v A' ⟨rfl,rfl⟩
      simp only [zW,zX,zD,builtinA,isLeaf,const1,ustrA,simprocAttr,ti3,ti9,ti36,ti39,ti304,ca80,ca121,ca155,ca245,ca247,ca293,ca294,ca295,ca296,cf,Tryz.results268,hd,hb]
    | false =>
      have hp : ∀ {q : Prop},(DefP s x → q) → ¬ q → defB s x = false:=fun f h=>defB_no fun k=>h (f k)
      refine acalls_enter (cf:=cf 57 [0,1,3,4,16,18,19,35]) foll Tryz.func268 Tryz.ntmps268 (by simp [cf]) ?_
      simp only [Tryz.f268,EnterK_some,zW,zX,zD,builtinA,isLeaf,const1,ustrA,simprocAttr,ti3,ti9,ti36,ti39,ti304,ca80,ca121,ca155,ca245,ca247,ca293,ca294,ca295,ca296,cf,Tryz.results268]
      refine callK_intro (by simp only [zW,zX,zD,builtinA,isLeaf,const1,ustrA,simprocAttr,Option.map_some]; rfl) (spec_LocalName x.name _) ?_ rfl; rintro v A' ⟨rfl,rfl⟩
      simp only [zW,zX,zD,builtinA,isLeaf,const1,ustrA,simprocAttr,ti3,ti9,ti36,ti39,ti304,ca80,ca121,ca155,ca245,ca247,ca293,ca294,ca295,ca296,cf,Tryz.results268,hl]
      refine callK_intro (by simp only [zW,zX,zD,builtinA,isLeaf,const1,ustrA,simprocAttr,Option.map_some]; rfl) (spec_l4Before s hs x.kind x.name _) ?_ rfl; rintro v A' ⟨rfl,rfl⟩
      by_cases k1 : x.kind = 1
      · have hno : ∀ h : ¬ (x.ex = ex0 ∧ ∃ v,x.typ = toTy v ∧ VOk v ∧ allV (kT s) v = true),defB s x = false:=fun h=>defB_no fun k=>by
          rcases k.2.2 with ⟨_,a⟩ | ⟨a,_⟩
          · exact h a
          · omega
        simp only [zW,zX,zD,builtinA,isLeaf,const1,ustrA,simprocAttr,ti3,ti9,ti36,ti39,ti304,ca80,ca121,ca155,ca245,ca247,ca293,ca294,ca295,ca296,cf,Tryz.results268,hd,decide_eq_true k1]
        refine callK_intro (by simp only [zW,zX,zD,builtinA,isLeaf,const1,ustrA,simprocAttr,Option.map_some]; rfl) (htv _) ?_ rfl; rintro v A' ⟨rfl,rfl⟩
        rcases valid_cases x.typ with ⟨v,hxv',hv⟩ | hv
        · have hva : validB x.typ = true:=by rw [hxv']; exact validB_toTy hv
          simp only [zW,zX,zD,builtinA,isLeaf,const1,ustrA,simprocAttr,ti3,ti9,ti36,ti39,ti304,ca80,ca121,ca155,ca245,ca247,ca293,ca294,ca295,ca296,cf,Tryz.results268,hva]
          refine callK_intro (by simp only [zW,zX,zD,builtinA,isLeaf,const1,ustrA,simprocAttr,Option.map_some] <;> rfl) (hxn _) ?_ rfl
          rintro r A' ⟨⟨rfl,he⟩ | ⟨rfl,he⟩,rfl⟩
          · simp only [zW,zX,zD,builtinA,isLeaf,const1,ustrA,simprocAttr,ti3,ti9,ti36,ti39,ti304,ca80,ca121,ca155,ca245,ca247,ca293,ca294,ca295,ca296,cf,Tryz.results268]
            refine callK_intro (by simp only [zW,zX,zD,builtinA,isLeaf,const1,ustrA,simprocAttr,Option.map_some]; rfl) (hkt2 v hv hxv' _) ?_ rfl; rintro v A' ⟨rfl,rfl⟩
            have hb : allV (kT s) v = defB s x:=defB_iff ⟨fun h=>⟨hl,hd,.inl ⟨k1,he,v,hxv',hv,h⟩⟩,fun h=>by
              rcases h.2.2 with ⟨_,_,v',e',_,h'⟩ | ⟨a,_⟩
              · rw [toTy_one (hxv'.symm.trans e')]; exact h'
              · omega⟩
            simp only [zW,zX,zD,builtinA,isLeaf,const1,ustrA,simprocAttr,ti3,ti9,ti36,ti39,ti304,ca80,ca121,ca155,ca245,ca247,ca293,ca294,ca295,ca296,cf,Tryz.results268,hb]
          · have hb:=hno fun h=>he h.1
            simp only [zW,zX,zD,builtinA,isLeaf,const1,ustrA,simprocAttr,ti3,ti9,ti36,ti39,ti304,ca80,ca121,ca155,ca245,ca247,ca293,ca294,ca295,ca296,cf,Tryz.results268,hb]
        · have hb:=hno fun ⟨_,v,e,h,_⟩=>by rw [e,validB_toTy h] at hv; cases hv
          simp only [zW,zX,zD,builtinA,isLeaf,const1,ustrA,simprocAttr,ti3,ti9,ti36,ti39,ti304,ca80,ca121,ca155,ca245,ca247,ca293,ca294,ca295,ca296,cf,Tryz.results268,hv,hb]
      · by_cases k2 : x.kind = 2
        · have hno : ∀ h : ¬ (x.typ = ty0 ∧ ∃ e,x.ex = toX e ∧ EOk e ∧ mostE e 0 = 0 ∧ allE (kV s) (kT s) e = true),defB s x = false:=fun h=>defB_no fun k=>by
            rcases k.2.2 with ⟨a,_⟩ | ⟨_,a⟩
            · omega
            · exact h a
          simp only [zW,zX,zD,builtinA,isLeaf,const1,ustrA,simprocAttr,ti3,ti9,ti36,ti39,ti304,ca80,ca121,ca155,ca245,ca247,ca293,ca294,ca295,ca296,cf,Tryz.results268,hd,decide_eq_false k1,decide_eq_true k2]
          refine callK_intro (by simp only [zW,zX,zD,builtinA,isLeaf,const1,ustrA,simprocAttr,Option.map_some]; rfl) (htz _) ?_ rfl; rintro v A' ⟨rfl,rfl⟩
          by_cases ht : x.typ = ty0
          · simp only [zW,zX,zD,builtinA,isLeaf,const1,ustrA,simprocAttr,ti3,ti9,ti36,ti39,ti304,ca80,ca121,ca155,ca245,ca247,ca293,ca294,ca295,ca296,cf,Tryz.results268,decide_eq_true ht]
            refine callK_intro (by simp only [zW,zX,zD,builtinA,isLeaf,const1,ustrA,simprocAttr,Option.map_some]; rfl) (hxv _) ?_ rfl; rintro v A' ⟨rfl,rfl⟩
            rcases validX_cases x.ex with ⟨e,hxe',he⟩ | he
            · have hva : validX x.ex = true:=by rw [hxe']; exact validX_toX he
              simp only [zW,zX,zD,builtinA,isLeaf,const1,ustrA,simprocAttr,ti3,ti9,ti36,ti39,ti304,ca80,ca121,ca155,ca245,ca247,ca293,ca294,ca295,ca296,cf,Tryz.results268,hva]
              refine callK_intro (by simp only [zW,zX,zD,builtinA,isLeaf,const1,ustrA,simprocAttr,Option.map_some]; rfl) (hms2 e he hxe' _) ?_ rfl; rintro v A' ⟨rfl,rfl⟩
              by_cases hm : mostE e 0 = 0
              · simp only [zW,zX,zD,builtinA,isLeaf,const1,ustrA,simprocAttr,ti3,ti9,ti36,ti39,ti304,ca80,ca121,ca155,ca245,ca247,ca293,ca294,ca295,ca296,cf,Tryz.results268,decide_eq_true hm]
                refine callK_intro (by simp only [zW,zX,zD,builtinA,isLeaf,const1,ustrA,simprocAttr,Option.map_some]; rfl) (hkx2 e he hxe' _) ?_ rfl; rintro v A' ⟨rfl,rfl⟩
                have hb : allE (kV s) (kT s) e = defB s x:=defB_iff ⟨fun h=>⟨hl,hd,.inr ⟨k2,ht,e,hxe',he,hm,h⟩⟩,fun h=>by
                  rcases h.2.2 with ⟨a,_⟩ | ⟨_,_,e',q,_,_,h'⟩
                  · omega
                  · rw [toX_inj (hxe'.symm.trans q)]; exact h'⟩
                simp only [zW,zX,zD,builtinA,isLeaf,const1,ustrA,simprocAttr,ti3,ti9,ti36,ti39,ti304,ca80,ca121,ca155,ca245,ca247,ca293,ca294,ca295,ca296,cf,Tryz.results268,hb]
              · have hb:=hno fun ⟨_,e',q,_,h',_⟩=>by rw [toX_inj (hxe'.symm.trans q)] at hm; exact hm h'
                simp only [zW,zX,zD,builtinA,isLeaf,const1,ustrA,simprocAttr,ti3,ti9,ti36,ti39,ti304,ca80,ca121,ca155,ca245,ca247,ca293,ca294,ca295,ca296,cf,Tryz.results268,decide_eq_false hm,hb]
            · have hb:=hno fun ⟨_,e',q,h,_⟩=>by rw [q,validX_toX h] at he; cases he
              simp only [zW,zX,zD,builtinA,isLeaf,const1,ustrA,simprocAttr,ti3,ti9,ti36,ti39,ti304,ca80,ca121,ca155,ca245,ca247,ca293,ca294,ca295,ca296,cf,Tryz.results268,he,hb]
          · have hb:=hno fun h=>ht h.1
            simp only [zW,zX,zD,builtinA,isLeaf,const1,ustrA,simprocAttr,ti3,ti9,ti36,ti39,ti304,ca80,ca121,ca155,ca245,ca247,ca293,ca294,ca295,ca296,cf,Tryz.results268,decide_eq_false ht,hb]
        · have hb : defB s x = false:=defB_no fun k=>by
            rcases k.2.2 with ⟨a,_⟩ | ⟨a,_⟩
            · exact k1 a
            · exact k2 a
          simp only [zW,zX,zD,builtinA,isLeaf,const1,ustrA,simprocAttr,ti3,ti9,ti36,ti39,ti304,ca80,ca121,ca155,ca245,ca247,ca293,ca294,ca295,ca296,cf,Tryz.results268,hd,decide_eq_false k1,decide_eq_false k2,hb]
noncomputable def stsV (s : List ItI) : Bool:=decide (s.length ≤ 10) && (List.range s.length).all fun i=>defB (s.take i) (s.getD i itm0)
theorem stsV_no {s : List ItI} {i : Nat} (hi : i < s.length) (h : defB (s.take i) (s.getD i itm0) = false) : stsV s = false:=by
  unfold stsV
  have : ((List.range s.length).all fun i=>defB (s.take i) (s.getD i itm0)) = false:=by
    rw [List.all_eq_false]
    exact ⟨i,List.mem_range.mpr hi,by rw [h]; decide⟩
  rw [this,Bool.and_false]
theorem rows_iEs (s : List ItI) : ∀ r ∈ iEs s,r.length = 15:=by
  intro r hr
  obtain ⟨x,_,rfl⟩:=List.mem_map.1 hr
  rfl
theorem take_iEs (s : List ItI) (i : Nat) : (iEs s).take i = iEs (s.take i):=by simp [iEs,List.map_take]
set_option maxRecDepth 100000 in
theorem spec_StructValid (s : List ItI) (hs : s.length ≤ 1048576) (ho : ∀ x ∈ s,x.Ok ∧ szJ x ≤ 1048576) (A : List Box) : ACalls Tryz.prog 211 [.slice (iEs s)] A (fun r A'=>r = .bool (stsV s) ∧ A' = A):=by
  refine acalls_enter (cf:=cf 26 [0,2,3,11,22]) foll Tryz.func211 Tryz.ntmps211 (by simp [cf]) ?_
  simp only [Tryz.f211,EnterK_some,zW,zX,zD,builtinA,isLeaf,const1,ustrA,simprocAttr,ti3,ti78,ti304,ca268,cf,Tryz.results211]
  refine aloop_intro [0,3] (fun e A'=>∃ i,i ≤ s.length ∧ i ≤ 11 ∧ (∀ k,k < i → defB (s.take k) (s.getD k itm0) = true) ∧ e = [(0,.slice (iEs s)),(3,.int .i64 (i : Nat))] ∧ A' = A) (fun e _=>s.length - (intOf (Abs.look 3 e)).toNat) ?_ ?_
  · simp only [zW,zX,zD,builtinA,isLeaf,const1,ustrA,simprocAttr,ti3,ti78,ti304,ca268,cf,Tryz.results211]
    exact ⟨0,by omega,by omega,fun k hk=>by omega,rfl⟩
  · rintro e A' ⟨i,hi,hi9,hq,rfl,rfl⟩
    by_cases hlt : i < s.length
    · have d1 : decide ((i : Int) < (s.length : Int)) = true:=by simp; omega
      have hlt' : 0 ≤ (i : Int) ∧ (i : Int) < (s.length : Int):=by omega
      by_cases h8 : i ≤ 10
      · have d2 : decide ((i : Int) ≤ 10) = true:=by simp; omega
        have hmem:=it_mem hlt
        have hg:=iEs_getD hlt
        have hit:=spec_l4Item (s.take i) (by simp; omega) (s.getD i itm0) (ho _ hmem).1 (ho _ hmem).2
        rw [← hg] at hit
        have hi1 : IntKind.i64.wrap ((i : Int) + 1) = ((i + 1 : Nat) : Int):=by rw [wrap64 (by omega) (by omega)]; rfl
        have p1 : (0 : Int) ≤ (i : Int) ∧ (i : Int) ≤ (s.length : Int):=by omega
        simp only [zW,zX,zD,builtinA,isLeaf,const1,ustrA,simprocAttr,ti3,ti78,ti304,ca268,cf,Tryz.results211,iEs_length,d1,d2]
        refine .inl ⟨by kernel_rfl,by kernel_rfl,?_⟩
        simp only [zW,zX,zD,builtinA,isLeaf,const1,ustrA,simprocAttr,ti3,ti78,ti304,ca268,cf,Tryz.results211,iEs_length,take_iEs]
        have l6 : ((iEs s).getD i []).length = 15:=by rw [hg]; rfl
        rw [List.take_of_length_le (by omega : ((iEs s).getD i []).length ≤ 15)]
        refine ⟨⟨rows_iEs s,p1⟩,⟨hlt'.1,hlt'.2,l6⟩,by omega,?_⟩
        rw [hg]
        rw [hg] at hit
        refine callD_intro (by simp only [zW,zX,zD,builtinA,isLeaf,const1,ustrA,simprocAttr,Option.map_some,frzL_iE] <;> rfl) (hit _) ?_ rfl
        simp only [zW,zX,zD,builtinA,isLeaf,const1,ustrA,simprocAttr,ti3,ti78,ti304,ca268,cf,Tryz.results211]
        cases hb : defB (s.take i) (s.getD i itm0) with
        | false =>
          simp only [zW,zX,zD,builtinA,isLeaf,const1,ustrA,simprocAttr,ti3,ti78,ti304,ca268,cf,Tryz.results211,Bool.not_false]
          rw [stsV_no hlt hb]
        | true =>
          simp only [zW,zX,zD,builtinA,isLeaf,const1,ustrA,simprocAttr,ti3,ti78,ti304,ca268,cf,Tryz.results211,Bool.not_true,hi1,LoopK_eq]
          refine ⟨⟨i + 1,by omega,by omega,fun k hk=>?_,rfl⟩,?_⟩
          · rcases Nat.lt_succ_iff_lt_or_eq.mp hk with h | rfl
            · exact hq k h
            · exact hb
          · simp only [intOf]; omega
      · have d2 : decide ((i : Int) ≤ 10) = false:=by simp; omega
        simp only [zW,zX,zD,builtinA,isLeaf,const1,ustrA,simprocAttr,ti3,ti78,ti304,ca268,cf,Tryz.results211,iEs_length,d1,d2]
        have : stsV s = false:=by simp [stsV,show ¬ s.length ≤ 10 by omega]
        rw [this]
        simp; omega
    · have d1 : decide ((i : Int) < (s.length : Int)) = false:=by simp; omega
      simp only [zW,zX,zD,builtinA,isLeaf,const1,ustrA,simprocAttr,ti3,ti78,ti304,ca268,cf,Tryz.results211,iEs_length,d1]
      have e : i = s.length:=by omega
      subst e
      have : stsV s = decide (s.length ≤ 10):=by
        unfold stsV
        rw [show ((List.range s.length).all fun i=>defB (s.take i) (s.getD i itm0)) = true from by
          rw [List.all_eq_true]
          intro k hk
          exact hq k (List.mem_range.mp hk),Bool.and_true]
      rw [this]
      congr 1
      rw [Bool.eq_iff_iff]; simp; omega
end Go.Proofs.YtnjdbgiincliaaaGreat
/- The model's UnitValid. -/
set_option linter.unusedVariables false
set_option linter.unusedSimpArgs false
namespace Go.Proofs.YtnjdbgiincliaaaGreat
open Go.Abs
def nmP (l : List ImI) : List (List UInt8):=l.map ImI.name
def fndP : List ImI → List UInt8 → Int
  | [],_=>-1
  | x :: l,n=>if x.name = n then 0 else if fndP l n < 0 then -1 else fndP l n + 1
theorem fndP_range : ∀ (l : List ImI) (n : List UInt8),-1 ≤ fndP l n ∧ fndP l n < l.length
  | [],n=>by simp [fndP]
  | x :: l,n=>by
    have:=fndP_range l n
    simp only [fndP,List.length_cons]
    split
    · omega
    · split <;> omega
theorem fndP_mem : ∀ (l : List ImI) (n : List UInt8),0 ≤ fndP l n ↔ n ∈ nmP l
  | [],n=>by simp [fndP,nmP]
  | x :: l,n=>by
    have h:=fndP_mem l n
    have hr:=fndP_range l n
    simp only [fndP,nmP,List.map_cons,List.mem_cons] at h ⊢
    by_cases hx : x.name = n
    · simp [hx]
    · rw [if_neg hx]
      have hx' : ¬ n = x.name:=fun e=>hx e.symm
      simp only [hx',false_or]
      rw [← h]
      split <;> omega
theorem fndP_skip : ∀ (l : List ImI) (n : List UInt8) (i : Nat),i ≤ l.length → n ∉ nmP (l.take i) → fndP l n = if fndP (l.drop i) n < 0 then -1 else fndP (l.drop i) n + i
  | l,n,0,_,_=>by
    have hr:=fndP_range l n
    simp only [List.drop_zero]
    split <;> omega
  | [],n,i + 1,h,_=>by simp at h
  | x :: l,n,i + 1,h,hn=>by
    have hx : ¬ x.name = n:=fun e=>hn (by simp [nmP,e])
    have ih:=fndP_skip l n i (by simpa using h) (fun hm=>hn (by simp only [List.take_succ_cons,nmP,List.map_cons,List.mem_cons]; exact .inr hm))
    have hr:=fndP_range (l.drop i) n
    simp only [fndP,if_neg hx,List.drop_succ_cons,ih]
    split
    · simp
    · rw [if_neg (by omega)]; omega
theorem pm_drop {l : List ImI} {i : Nat} (h : i < l.length) : l.drop i = l.getD i pm0 :: l.drop (i + 1):=by
  have : l.getD i pm0 = l[i]:=by simp [List.getD,h]
  rw [this,List.getElem_cons_drop h]
set_option maxRecDepth 100000 in
theorem spec_l5Find (s : List ImI) (hs : s.length ≤ 1048576) (n : List UInt8) (A : List Box) : ACalls Tryz.prog 210 [.slice (pEs s),.str n] A (fun r A'=>r = .int .i64 (fndP s n) ∧ A' = A):=by
  refine acalls_enter (cf:=cf 20 [0,1,4,5,9,18]) foll Tryz.func210 Tryz.ntmps210 (by simp [cf]) ?_
  simp only [Tryz.f210,EnterK_some,zW,zX,zD,builtinA,isLeaf,const1,ustrA,simprocAttr,ti3,ti9,ti77,ti194,cf,Tryz.results210]
  refine aloop_intro [0,1,5] (fun e A'=>∃ i,i ≤ s.length ∧ n ∉ nmP (s.take i) ∧ e = [(0,.slice (pEs s)),(1,.str n),(5,.int .i64 (i : Nat))] ∧ A' = A) (fun e _=>s.length - (intOf (Abs.look 5 e)).toNat) ?_ ?_
  · simp only [zW,zX,zD,builtinA,isLeaf,const1,ustrA,simprocAttr,ti3,ti9,ti77,ti194,cf,Tryz.results210]
    exact ⟨0,by omega,by simp [nmP],rfl⟩
  · rintro e A' ⟨i,hi,hq,rfl,rfl⟩
    have hsk:=fndP_skip s n i hi hq
    simp only [zW,zX,zD,builtinA,isLeaf,const1,ustrA,simprocAttr,ti3,ti9,ti77,ti194,cf,Tryz.results210,pEs_length]
    refine condK_intro (fun h2=>?_) (fun h2=>?_)
    · have hi2 : i < s.length:=by simp at h2; omega
      have hg:=pEs_getD hi2
      have htk:=pm_take hi2
      rw [pm_drop hi2] at hsk
      have hi1 : IntKind.i64.wrap ((i : Int) + 1) = ((i + 1 : Nat) : Int):=by rw [wrap64 (by omega) (by omega)]; rfl
      generalize s.getD i pm0 = x at *
      have pi : (0 : Int) ≤ (i : Int) ∧ (i : Int) < (s.length : Int):=⟨by omega,by omega⟩
      simp only [pE] at hg
      by_cases h1 : x.name = n
      · simp only [zW,zX,zD,builtinA,isLeaf,const1,ustrA,simprocAttr,ti3,ti9,ti77,ti194,cf,Tryz.results210,decide_eq_true h1,hg,pEs_length]
        refine ⟨pi,?_⟩
        rw [hsk,fndP,if_pos h1]; simp
      · simp only [zW,zX,zD,builtinA,isLeaf,const1,ustrA,simprocAttr,ti3,ti9,ti77,ti194,cf,Tryz.results210,decide_eq_false h1,hg,pEs_length,hi1,LoopK_eq]
        refine ⟨pi,⟨i + 1,by omega,?_,rfl⟩,?_⟩
        · rw [htk]
          simp only [nmP,List.map_append,List.mem_append,List.map_cons,List.map_nil,List.mem_singleton,not_or]
          exact ⟨hq,fun e=>h1 e.symm⟩
        · simp only [intOf]; omega
    · have hi2 : i = s.length:=by simp at h2; omega
      subst hi2
      simp only [zW,zX,zD,builtinA,isLeaf,const1,ustrA,simprocAttr,ti3,ti9,ti77,ti194,cf,Tryz.results210]
      rw [hsk]
      simp [fndP]
noncomputable def parB (un : List UInt8) (ps : List ImI) (x : ImI) : Bool:=((moduleB x.name && !decide (x.name = un)) && !decide (x.name ∈ nmP ps)) && sigB x.sig
noncomputable def unitB (u : UnI) : Bool:=(((decide (u.params.length ≤ 3) && (List.range u.params.length).all fun i=>parB u.name (u.params.take i) (u.params.getD i pm0)) && moduleB u.name) && stsV u.body) && sigB u.face
theorem parB_no {u : UnI} {i : Nat} (hi : i < u.params.length) (h : parB u.name (u.params.take i) (u.params.getD i pm0) = false) : unitB u = false:=by
  unfold unitB
  have : ((List.range u.params.length).all fun i=>parB u.name (u.params.take i) (u.params.getD i pm0)) = false:=by
    rw [List.all_eq_false]
    exact ⟨i,List.mem_range.mpr hi,by rw [h]; decide⟩
  rw [this]; simp
theorem rows_pEs (s : List ImI) : ∀ r ∈ pEs s,r.length = 2:=by
  intro r hr
  obtain ⟨x,_,rfl⟩:=List.mem_map.1 hr
  rfl
theorem take_pEs (s : List ImI) (i : Nat) : (pEs s).take i = pEs (s.take i):=by simp [pEs,List.map_take]
def UnBig (u : UnI) : Prop:=(u.params.length ≤ 1048576 ∧ ∀ p ∈ u.params,p.sig.length ≤ 1048576 ∧ ∀ x ∈ p.sig,x.Ok ∧ sz x.typ ≤ 1048576) ∧ (u.body.length ≤ 1048576 ∧ ∀ x ∈ u.body,x.Ok ∧ szJ x ≤ 1048576) ∧ (u.face.length ≤ 1048576 ∧ ∀ x ∈ u.face,x.Ok ∧ sz x.typ ≤ 1048576)
set_option maxRecDepth 100000 in
set_option maxHeartbeats 2000000 in
theorem spec_UnitValid (u : UnI) (hu : UnBig u) (A : List Box) : ACalls Tryz.prog 124 [.agg (uE u)] A (fun r A'=>r = .bool (unitB u) ∧ A' = A):=by
  obtain ⟨⟨hp1,hp2⟩,⟨hb1,hb2⟩,hf1,hf2⟩:=hu
  rw [uE]
  refine acalls_enter (cf:=cf 77 [0,1,2,3,12,57]) foll Tryz.func124 Tryz.ntmps124 (by simp [cf]) ?_
  simp only [Tryz.f124,EnterK_some,zW,zX,zD,builtinA,isLeaf,const1,ustrA,simprocAttr,ti3,ti9,ti50,ti69,ti77,ti78,ti80,ti194,ti304,ca87,ca104,ca210,ca211,cf,Tryz.results124]
  refine aloop_intro [1,3] (fun e A'=>∃ i,i ≤ u.params.length ∧ i ≤ 4 ∧ (∀ k,k < i → parB u.name (u.params.take k) (u.params.getD k pm0) = true) ∧ e = [(1,.ptr A.length 0),(3,.int .i64 (i : Nat))] ∧ A' = A ++ [.cells [.str u.name,.slice (pEs u.params),.slice (iEs u.body),.slice (sEs u.face)]]) (fun e _=>u.params.length - (intOf (Abs.look 3 e)).toNat) ?_ ?_
  · simp only [zW,zX,zD,builtinA,isLeaf,const1,ustrA,simprocAttr,ti3,ti9,ti50,ti69,ti77,ti78,ti80,ti194,ti304,ca87,ca104,ca210,ca211,cf,Tryz.results124]
    exact ⟨0,by omega,by omega,fun k hk=>by omega,rfl⟩
  · rintro e A' ⟨i,hi,hi9,hq,rfl,rfl⟩
    by_cases hlt : i < u.params.length
    · have d1 : decide ((i : Int) < (u.params.length : Int)) = true:=by simp; omega
      have pi : 0 ≤ (i : Int) ∧ (i : Int) < (u.params.length : Int):=by omega
      have p1 : (0 : Int) ≤ (i : Int) ∧ (i : Int) ≤ (u.params.length : Int):=by omega
      by_cases h8 : i ≤ 3
      · have d2 : decide ((i : Int) ≤ 3) = true:=by simp; omega
        have hno:=@parB_no u i hlt
        have hmem:=hp2 _ (pm_mem hlt)
        have hg:=pEs_getD hlt
        have hi1 : IntKind.i64.wrap ((i : Int) + 1) = ((i + 1 : Nat) : Int):=by rw [wrap64 (by omega) (by omega)]; rfl
        have hfd:=spec_l5Find (u.params.take i) (by simp; omega) (u.params.getD i pm0).name
        have hfm:=fndP_mem (u.params.take i) (u.params.getD i pm0).name
        have hnext : parB u.name (u.params.take i) (u.params.getD i pm0) = true → ∀ k,k < i + 1 → parB u.name (u.params.take k) (u.params.getD k pm0) = true:=fun h k hk=>by
          rcases Nat.lt_succ_iff_lt_or_eq.mp hk with h' | rfl
          · exact hq k h'
          · exact h
        have hpe : parB u.name (u.params.take i) (u.params.getD i pm0) = (((moduleB (u.params.getD i pm0).name && !decide ((u.params.getD i pm0).name = u.name)) && !decide ((u.params.getD i pm0).name ∈ nmP (u.params.take i))) && sigB (u.params.getD i pm0).sig):=rfl
        generalize parB u.name (u.params.take i) (u.params.getD i pm0) = pb at *
        generalize u.params.getD i pm0 = x at *
        have hsv:=spec_SigValid x.sig hmem.1 hmem.2
        simp only [pE] at hg
        cases hm : moduleB x.name with
        | false =>
          rw [hm] at hpe
          have hpf : pb = false:=hpe
          simp only [zW,zX,zD,builtinA,isLeaf,const1,ustrA,simprocAttr,ti3,ti9,ti50,ti69,ti77,ti78,ti80,ti194,ti304,ca87,ca104,ca210,ca211,cf,Tryz.results124,pEs_length,d1,d2,hg]
          refine .inl ⟨by kernel_rfl,by kernel_rfl,pi,?_⟩
          refine callD_intro (by simp only [zW,zX,zD,builtinA,isLeaf,const1,ustrA,simprocAttr,Option.map_some] <;> rfl) (spec_ModuleName x.name _) ?_ rfl
          simp only [zW,zX,zD,builtinA,isLeaf,const1,ustrA,simprocAttr,ti3,ti9,ti50,ti69,ti77,ti78,ti80,ti194,ti304,ca87,ca104,ca210,ca211,cf,Tryz.results124,hm]
          rw [hno hpf]
        | true =>
          by_cases hn : x.name = u.name
          · rw [decide_eq_true hn] at hpe
            have hpf : pb = false:=by rw [hpe]; simp
            simp only [zW,zX,zD,builtinA,isLeaf,const1,ustrA,simprocAttr,ti3,ti9,ti50,ti69,ti77,ti78,ti80,ti194,ti304,ca87,ca104,ca210,ca211,cf,Tryz.results124,pEs_length,d1,d2,hg]
            refine .inl ⟨by kernel_rfl,by kernel_rfl,pi,?_⟩
            refine callD_intro (by simp only [zW,zX,zD,builtinA,isLeaf,const1,ustrA,simprocAttr,Option.map_some] <;> rfl) (spec_ModuleName x.name _) ?_ rfl
            simp only [zW,zX,zD,builtinA,isLeaf,const1,ustrA,simprocAttr,ti3,ti9,ti50,ti69,ti77,ti78,ti80,ti194,ti304,ca87,ca104,ca210,ca211,cf,Tryz.results124,hm,hg,pEs_length,decide_eq_true hn]
            exact ⟨pi,by rw [hno hpf]⟩
          · have hfz : decide (fndP (u.params.take i) x.name ≥ 0) = decide (x.name ∈ nmP (u.params.take i)):=by
              rw [Bool.eq_iff_iff]; simp only [decide_eq_true_eq]; exact hfm
            have hfz' : decide (0 ≤ fndP (u.params.take i) x.name) = decide (x.name ∈ nmP (u.params.take i)):=hfz
            rw [decide_eq_false hn] at hpe
            simp only [zW,zX,zD,builtinA,isLeaf,const1,ustrA,simprocAttr,ti3,ti9,ti50,ti69,ti77,ti78,ti80,ti194,ti304,ca87,ca104,ca210,ca211,cf,Tryz.results124,pEs_length,d1,d2,hg]
            refine .inl ⟨by kernel_rfl,by kernel_rfl,pi,?_⟩
            refine callD_intro (by simp only [zW,zX,zD,builtinA,isLeaf,const1,ustrA,simprocAttr,Option.map_some] <;> rfl) (spec_ModuleName x.name _) ?_ rfl
            simp only [zW,zX,zD,builtinA,isLeaf,const1,ustrA,simprocAttr,ti3,ti9,ti50,ti69,ti77,ti78,ti80,ti194,ti304,ca87,ca104,ca210,ca211,cf,Tryz.results124,hm,hg,pEs_length,decide_eq_false hn,take_pEs]
            refine ⟨pi,⟨rows_pEs _,p1⟩,pi,?_⟩
            refine callD_intro (by simp only [zW,zX,zD,builtinA,isLeaf,const1,ustrA,simprocAttr,Option.map_some] <;> rfl) (hfd _) ?_ rfl
            by_cases hk : x.name ∈ nmP (u.params.take i)
            · rw [decide_eq_true hk] at hpe hfz hfz'
              have hpf : pb = false:=by rw [hpe]; simp
              simp only [zW,zX,zD,builtinA,isLeaf,const1,ustrA,simprocAttr,ti3,ti9,ti50,ti69,ti77,ti78,ti80,ti194,ti304,ca87,ca104,ca210,ca211,cf,Tryz.results124,hfz,hfz']
              rw [hno hpf]
            · rw [decide_eq_false hk] at hpe hfz hfz'
              have hpf : pb = sigB x.sig:=by rw [hpe,hm]; simp
              simp only [zW,zX,zD,builtinA,isLeaf,const1,ustrA,simprocAttr,ti3,ti9,ti50,ti69,ti77,ti78,ti80,ti194,ti304,ca87,ca104,ca210,ca211,cf,Tryz.results124,hfz,hfz',hg,pEs_length]
              refine ⟨pi,?_⟩
              refine callD_intro (by simp only [zW,zX,zD,builtinA,isLeaf,const1,ustrA,simprocAttr,Option.map_some] <;> rfl) (hsv _) ?_ rfl
              simp only [zW,zX,zD,builtinA,isLeaf,const1,ustrA,simprocAttr,ti3,ti9,ti50,ti69,ti77,ti78,ti80,ti194,ti304,ca87,ca104,ca210,ca211,cf,Tryz.results124]
              cases hsb : sigB x.sig with
              | false =>
                simp only [zW,zX,zD,builtinA,isLeaf,const1,ustrA,simprocAttr,ti3,ti9,ti50,ti69,ti77,ti78,ti80,ti194,ti304,ca87,ca104,ca210,ca211,cf,Tryz.results124]
                rw [hno (hpf.trans hsb)]
              | true =>
                simp only [zW,zX,zD,builtinA,isLeaf,const1,ustrA,simprocAttr,ti3,ti9,ti50,ti69,ti77,ti78,ti80,ti194,ti304,ca87,ca104,ca210,ca211,cf,Tryz.results124,hi1,LoopK_eq]
                refine ⟨⟨i + 1,by omega,by omega,hnext (hpf.trans hsb),rfl⟩,?_⟩
                simp only [intOf]; omega
      · have d2 : decide ((i : Int) ≤ 3) = false:=by simp; omega
        have hb : unitB u = false:=by unfold unitB; rw [decide_eq_false (by omega : ¬ u.params.length ≤ 3)]; simp
        have d3 : decide ((u.params.length : Int) ≤ 3) = false:=by simp; omega
        simp only [zW,zX,zD,builtinA,isLeaf,const1,ustrA,simprocAttr,ti3,ti9,ti50,ti69,ti77,ti78,ti80,ti194,ti304,ca87,ca104,ca210,ca211,cf,Tryz.results124,pEs_length,d1,d2,d3]
        rw [hb]
    · have d1 : decide ((i : Int) < (u.params.length : Int)) = false:=by simp; omega
      have e : i = u.params.length:=by omega
      subst e
      have hall : ((List.range u.params.length).all fun i=>parB u.name (u.params.take i) (u.params.getD i pm0)) = true:=by
        rw [List.all_eq_true]
        intro k hk
        exact hq k (List.mem_range.mp hk)
      have hu : unitB u = (((decide (u.params.length ≤ 3)) && moduleB u.name) && stsV u.body && sigB u.face):=by
        unfold unitB
        rw [hall,Bool.and_true]
      rw [hu]
      by_cases h3 : u.params.length ≤ 3
      · have d3 : decide ((u.params.length : Int) ≤ 3) = true:=by simp; omega
        rw [decide_eq_true h3,Bool.true_and]
        simp only [zW,zX,zD,builtinA,isLeaf,const1,ustrA,simprocAttr,ti3,ti9,ti50,ti69,ti77,ti78,ti80,ti194,ti304,ca87,ca104,ca210,ca211,cf,Tryz.results124,pEs_length,d1,d3]
        refine callK_intro (by simp only [zW,zX,zD,builtinA,isLeaf,const1,ustrA,simprocAttr,Option.map_some]; rfl) (spec_ModuleName u.name _) ?_ rfl; rintro v A' ⟨rfl,rfl⟩
        cases hm : moduleB u.name with
        | false =>
          simp only [zW,zX,zD,builtinA,isLeaf,const1,ustrA,simprocAttr,ti3,ti9,ti50,ti69,ti77,ti78,ti80,ti194,ti304,ca87,ca104,ca210,ca211,cf,Tryz.results124]
        | true =>
          simp only [zW,zX,zD,builtinA,isLeaf,const1,ustrA,simprocAttr,ti3,ti9,ti50,ti69,ti77,ti78,ti80,ti194,ti304,ca87,ca104,ca210,ca211,cf,Tryz.results124]
          refine callK_intro (by simp only [zW,zX,zD,builtinA,isLeaf,const1,ustrA,simprocAttr,Option.map_some]; rfl) (spec_StructValid u.body hb1 hb2 _) ?_ rfl; rintro v A' ⟨rfl,rfl⟩
          cases hs : stsV u.body with
          | false =>
            simp only [zW,zX,zD,builtinA,isLeaf,const1,ustrA,simprocAttr,ti3,ti9,ti50,ti69,ti77,ti78,ti80,ti194,ti304,ca87,ca104,ca210,ca211,cf,Tryz.results124]
          | true =>
            simp only [zW,zX,zD,builtinA,isLeaf,const1,ustrA,simprocAttr,ti3,ti9,ti50,ti69,ti77,ti78,ti80,ti194,ti304,ca87,ca104,ca210,ca211,cf,Tryz.results124]
            refine callK_intro (by simp only [zW,zX,zD,builtinA,isLeaf,const1,ustrA,simprocAttr,Option.map_some]; rfl) (spec_SigValid u.face hf1 hf2 _) ?_ rfl; rintro v A' ⟨rfl,rfl⟩
            simp only [zW,zX,zD,builtinA,isLeaf,const1,ustrA,simprocAttr,ti3,ti9,ti50,ti69,ti77,ti78,ti80,ti194,ti304,ca87,ca104,ca210,ca211,cf,Tryz.results124]
      · have d3 : decide ((u.params.length : Int) ≤ 3) = false:=by simp; omega
        rw [decide_eq_false h3]
        simp only [zW,zX,zD,builtinA,isLeaf,const1,ustrA,simprocAttr,ti3,ti9,ti50,ti69,ti77,ti78,ti80,ti194,ti304,ca87,ca104,ca210,ca211,cf,Tryz.results124,pEs_length,d1,d3]
end Go.Proofs.YtnjdbgiincliaaaGreat
