/- UnSame, UnSpec, Nams. -/
import Derived.Test.YtijlnkfiadajhaaK10
import Derived.Test.YtijlnkfiadajhaaAbsW3
/- UnitSame, by the program and by the model. -/
set_option linter.unusedVariables false
set_option linter.unusedSimpArgs false
namespace Go.Proofs.Ytijlnkfiadajhaa
open Go.Abs
noncomputable def pmI (x y : ImI) : Bool:=decide (x.name = y.name) && sisB x.sig y.sig
noncomputable def unB (u v : UnI) : Bool:=((decide (u.name = v.name) && CG.allB pmI u.params v.params) && stsB u.body v.body) && sisB u.face v.face
theorem allB_er : ∀ a b : List ImJ,CG.allB pmB a b = CG.allB pmI (a.map erP) (b.map erP)
  | [],[]=>rfl
  | [],_ :: _=>rfl
  | _ :: _,[]=>rfl
  | x :: a,y :: b=>by rw [CG.allB,List.map_cons,List.map_cons,CG.allB,allB_er a b]; rfl
theorem unJB_er (x y : UnJ) : unJB x y = unB (erU x) (erU y):=by
  have h : (decide (x.name = y.name)) = (decide ((erU x).name = (erU y).name)):=by
    by_cases e : x.name = y.name
    · rw [decide_eq_true e,decide_eq_true (show (erU x).name = (erU y).name from e)]
    · rw [decide_eq_false e,decide_eq_false (show ¬ (erU x).name = (erU y).name from e)]
  rw [unJB,unB,allB_er,h]; rfl
def szUs (xs : List UnJ) : Nat:=(xs.map fun x=>szU (erU x)).sum
theorem szIs_app (a b : List SigI) : szIs (a ++ b) = szIs a + szIs b:=by simp [szIs]
theorem szJs_app (a b : List ItI) : szJs (a ++ b) = szJs a + szJs b:=by simp [szJs]
theorem sigs_par : ∀ ps : List ImJ,szIs (((ps.filterMap (·.sig)).flatMap SL.ks).map erJ) ≤ szPs (ps.map erP)
  | []=>by simp [szIs,szPs]
  | ⟨n,none⟩ :: ps=>by
    have ih:=sigs_par ps
    simp only [List.filterMap_cons_none,List.map_cons,szPs,List.sum_cons] at ih ⊢
    omega
  | ⟨n,some s⟩ :: ps=>by
    have ih:=sigs_par ps
    have e : List.filterMap (fun x : ImJ=>x.sig) (⟨n,some s⟩ :: ps) = s :: List.filterMap (fun x : ImJ=>x.sig) ps:=rfl
    rw [e,List.flatMap_cons,List.map_append,szIs_app]
    simp only [List.map_cons,szPs,List.sum_cons,szP,erP,oK] at ih ⊢
    omega
theorem sigs_un (x : UnJ) : szIs (((sigsU x).flatMap SL.ks).map erJ) ≤ szU (erU x):=by
  have h1:=sigs_par (CP.oKP x.params)
  have h2 : szIs ((x.face.toList.flatMap SL.ks).map erJ) = szIs ((oK x.face).map erJ):=by cases x.face <;> simp [oK]
  rw [sigsU,List.flatMap_append,List.map_append,szIs_app,h2]
  simp only [szU,szUb,szUp,erU]
  omega
theorem body_un (x : UnJ) : szJs ((x.body.toList.flatMap KL.ks).map erK) ≤ szU (erU x):=by
  have h2 : szJs ((x.body.toList.flatMap KL.ks).map erK) = szJs ((oKK x.body).map erK):=by cases x.body <;> simp [oKK]
  rw [h2]
  simp only [szU,szUb,szUp,erU]
  omega
theorem sums_un : ∀ xs : List UnJ,szIs (((xs.flatMap sigsU).flatMap SL.ks).map erJ) ≤ szUs xs ∧ szJs (((xs.flatMap (·.body.toList)).flatMap KL.ks).map erK) ≤ szUs xs
  | []=>by simp [szIs,szJs,szUs]
  | x :: xs=>by
    have ih:=sums_un xs
    have h1:=sigs_un x
    have h2:=body_un x
    rw [List.flatMap_cons,List.flatMap_append,List.map_append,szIs_app,List.flatMap_cons,List.flatMap_append,List.map_append,szJs_app]
    simp only [szUs,List.map_cons,List.sum_cons] at ih ⊢
    omega
theorem szPs_has {x : ImJ} {ps : List ImJ} (h : x ∈ ps) : (oK x.sig).length ≤ szPs (ps.map erP):=by
  have h1:=szPs_mem (x:=erP x) (l:=ps.map erP) (List.mem_map.2 ⟨x,h,rfl⟩)
  simp only [szP,erP,List.length_map] at h1
  omega
theorem knU_of {G : Ghost} {w : World} (xs : List UnJ) (es : List SX.IEx) (hx : ∀ x ∈ xs,KnUn G w x) (he : ∀ e ∈ es,(∀ z ∈ SX.lists e,SX.LLok G w z) ∧ ∀ z ∈ SX.argL e,LLok G w z)
    (hz : ∀ x ∈ xs,szU (erU x) ≤ 1048576) (ht : szUs xs ≤ 10000000) (ze : szXs2 es ≤ 10000000) :
    KnU (TofU (xs.flatMap sigsU) (xs.flatMap (·.body.toList)) es) (XofU (xs.flatMap (·.body.toList)) es) (xs.flatMap sigsU) (xs.flatMap (·.body.toList)) (xs.flatMap (·.params.toList)) ∧ ∀ x ∈ xs,InU (xs.flatMap sigsU) (xs.flatMap (·.body.toList)) (xs.flatMap (·.params.toList)) x:=by
  have hsum:=sums_un xs
  have cs : ∀ s ∈ xs.flatMap sigsU,∃ x ∈ xs,(∃ p ∈ CP.oKP x.params,p.sig = some s) ∨ x.face = some s:=fun s h=>by
    obtain ⟨x,h1,h2⟩:=List.mem_flatMap.1 h
    refine ⟨x,h1,?_⟩
    rcases List.mem_append.1 h2 with h | h
    · obtain ⟨p,h3,h4⟩:=List.mem_filterMap.1 h
      exact .inl ⟨p,h3,h4⟩
    · exact .inr (by simpa using h)
  have ck : ∀ k ∈ xs.flatMap (·.body.toList),∃ x ∈ xs,x.body = some k:=fun k h=>by
    obtain ⟨x,h1,h2⟩:=List.mem_flatMap.1 h
    exact ⟨x,h1,by simpa using h2⟩
  have cp : ∀ k ∈ xs.flatMap (·.params.toList),∃ x ∈ xs,x.params = some k:=fun k h=>by
    obtain ⟨x,h1,h2⟩:=List.mem_flatMap.1 h
    exact ⟨x,h1,by simpa using h2⟩
  have hkn:=kn_of (G:=G) (w:=w) (xs.flatMap sigsU) (xs.flatMap (·.body.toList)) es
    (fun s h=>by
      obtain ⟨x,h1,⟨p,h2,h3⟩ | h2⟩:=cs s h
      · have:=(hx x h1).p1 p h2
        exact ⟨this.2 s h3,fun t ht=>(this.1 t (by rw [h3]; exact ht)).2⟩
      · exact ⟨(hx x h1).f2 s h2,fun t ht=>((hx x h1).f1 t (by rw [h2]; exact ht)).2⟩)
    (fun k h=>by
      obtain ⟨x,h1,h2⟩:=ck k h
      exact ⟨(hx x h1).b2 k h2,fun t ht=>(hx x h1).b1 t (by rw [h2]; exact ht)⟩) he (by omega) (by omega) ze
    (fun s h=>by
      obtain ⟨x,h1,⟨p,h2,h3⟩ | h2⟩:=cs s h
      · have h4:=szPs_has h2
        rw [h3] at h4
        have h5:=hz x h1
        simp only [szU,szUb,szUp,erU,oK] at h4 h5
        omega
      · have h5:=hz x h1
        simp only [szU,szUb,szUp,erU,h2,oK,List.length_map] at h5
        omega)
    (fun k h=>by
      obtain ⟨x,h1,h2⟩:=ck k h
      have h5:=hz x h1
      simp only [szU,szUb,szUp,erU,h2,oKK,List.length_map] at h5
      omega)
  refine ⟨⟨hkn,fun x hx2 y hy2 h=>?_,fun p h=>?_⟩,fun x hxm=>⟨fun l h=>List.mem_flatMap.2 ⟨x,hxm,by simp [h]⟩,fun l h=>List.mem_flatMap.2 ⟨x,hxm,by simp [h]⟩,fun l h=>List.mem_flatMap.2 ⟨x,hxm,List.mem_append_right _ (by simp [h])⟩⟩⟩
  · obtain ⟨a,h1,h2⟩:=cp x hx2
    obtain ⟨b,h3,h4⟩:=cp y hy2
    exact ((hx a h1).p2 x h2).inj ((hx b h3).p2 y h4) h
  · obtain ⟨x,h1,h2⟩:=cp p h
    refine ⟨fun t ht l hl=>List.mem_flatMap.2 ⟨x,h1,List.mem_append_left _ (List.mem_filterMap.2 ⟨t,by rw [h2]; exact ht,hl⟩)⟩,?_⟩
    have h5:=hz x h1
    simp only [szU,szUb,szUp,erU,h2,CP.oKP,List.length_map] at h5
    omega
theorem uJ_length (x : UnJ) : (uJ x).length = 4:=rfl
theorem impl_UnitSame (u v : UnI) (hu : szU u ≤ 1048576) (hv : szU v ≤ 1048576) (A : List Box) : ACalls Try.prog 9 [.agg (uE u),.agg (uE v)] A (fun r A'=>r = .bool (unB u v) ∧ A' = A):=by
  intro G w base xs hH hx
  obtain ⟨a,b,hxy,h1,h2⟩:=hx.two
  have key : ∀ (u : UnI) (a : Value),RV G w (.agg (uE u)) a → ∃ x : UnJ,erU x = u ∧ RV G w (.agg (uJ x)) a ∧ KnUn G w x:=fun u a h=>by
    have hl:=uE_length u
    have hX : ∀ X : Nat → Value,(∀ j,j < 4 → RV G w ((uE u).getD j .bot) (X j)) → _:=annotU (G:=G) (w:=w) u
    generalize uE u = cs at *
    cases h with
    | agg _ ys hs hc hh =>
      obtain ⟨x,e,hr,hk⟩:=hX (fun j=>ys.getD j undef) fun j hj=>hh j (by omega)
      exact ⟨x,e,.agg _ _ (by rw [uJ_length]; omega) hc fun j hj=>hr j (by rw [uJ_length] at hj; exact hj),hk⟩
  obtain ⟨x,e1,r1,k1⟩:=key u a h1
  obtain ⟨y,e2,r2,k2⟩:=key v b h2
  have hU:=knU_of (G:=G) (w:=w) [x,y] [] (by simp; exact ⟨k1,k2⟩) (by simp) (by simp [e1,e2]; exact ⟨hu,hv⟩) (by simp [szUs,e1,e2]; omega) (by simp [szXs2])
  have hc:=impl_UnitSameI hU.1 x y (hU.2 x (by simp)) (hU.2 y (by simp)) A
  rw [unJB_er,e1,e2] at hc
  refine hc G w base xs hH ?_
  rw [hxy]
  exact .cons r1 (.cons r2 .nil)
end Go.Proofs.Ytijlnkfiadajhaa
/- The model's UnitSame. -/
set_option linter.unusedVariables false
set_option linter.unusedSimpArgs false
namespace Go.Proofs.Ytijlnkfiadajhaa
open Go.Abs
set_option maxRecDepth 100000 in
set_option maxHeartbeats 1000000 in
theorem spec_UnitSame (u v : UnI) (hu : u.Ok) (hz : szU u ≤ 1048576) (A : List Box) : ACalls Try.prog 7 [.agg (uE u),.agg (uE v)] A (fun r A'=>r = .bool (unB u v) ∧ A' = A):=by
  obtain ⟨hn,hp,hb,hf⟩:=hu
  have l1 : u.params.length ≤ 1048576 ∧ u.body.length ≤ 1048576 ∧ u.face.length ≤ 1048576:=by unfold szU szUb szUp at hz; omega
  have hst:=fun A=>spec_StructSame u.body v.body hb.2 l1.2.1 A
  have hsg:=fun A=>spec_SigSame u.face v.face hf.2 l1.2.2 A
  have hps : ∀ x ∈ u.params,∀ (y : ImI) A,ACalls Try.prog 24 [.slice (sEs x.sig),.slice (sEs y.sig)] A (fun r A'=>r = .bool (sisB x.sig y.sig) ∧ A' = A):=fun x hx y A=>spec_SigSame x.sig y.sig (hp.2 x hx).2.2 (by have:=szPs_mem hx; unfold szU szUb szUp at hz; simp only [szP] at this; omega) A
  rw [uE,uE]
  by_cases h1 : u.name = v.name
  · by_cases h2 : u.params.length = v.params.length
    · have d2 : decide ((u.params.length : Int) = (v.params.length : Int)) = true:=decide_eq_true (by omega)
      have d2' : decide (¬ (u.params.length : Int) = (v.params.length : Int)) = false:=decide_eq_false (fun h=>h (by omega))
      cases h3 : stsB u.body v.body with
      | true =>
        cases h4 : sisB u.face v.face with
        | true =>
          have hun : unB u v = CG.allB pmI u.params v.params:=by rw [unB,h3,h4,decide_eq_true h1]; simp
          rw [hun]
          rw [h3] at hst
          rw [h4] at hsg
          refine acalls_enter (cf:=cf 72 [0,1,2,3,4,5,35,40,71]) foll Try.func7 Try.ntmps7 (by simp [cf]) ?_
          simp only [Try.f7,EnterK_some,zW,zX,zD,builtinA,isLeaf,const1,ustrA,simprocAttr,ti3,ti9,ti29,ti30,ti31,ti33,ti70,ti130,ti132,ca23,ca24,cf,Try.results7]
          simp only [zW,zX,zD,builtinA,isLeaf,const1,ustrA,simprocAttr,ti3,ti9,ti29,ti30,ti31,ti33,ti70,ti130,ti132,ca23,ca24,cf,Try.results7,h1,pEs_length,d2,d2']
          refine callK_intro (by simp only [zW,zX,zD,builtinA,isLeaf,const1,ustrA,simprocAttr,Option.map_some]; rfl) (hst _) ?_ rfl; rintro v A' ⟨rfl,rfl⟩
          simp only [zW,zX,zD,builtinA,isLeaf,const1,ustrA,simprocAttr,ti3,ti9,ti29,ti30,ti31,ti33,ti70,ti130,ti132,ca23,ca24,cf,Try.results7]
          refine callK_intro (by simp only [zW,zX,zD,builtinA,isLeaf,const1,ustrA,simprocAttr,Option.map_some]; rfl) (hsg _) ?_ rfl; rintro v A' ⟨rfl,rfl⟩
          simp only [zW,zX,zD,builtinA,isLeaf,const1,ustrA,simprocAttr,ti3,ti9,ti29,ti30,ti31,ti33,ti70,ti130,ti132,ca23,ca24,cf,Try.results7]
          refine aloop_intro [2,3,5] (fun e A'=>∃ i,i ≤ u.params.length ∧ CG.allB pmI (u.params.drop i) (v.params.drop i) = CG.allB pmI u.params v.params ∧ e = [(2,.ptr A.length 0),(3,.ptr (A.length + 1) 0),(5,.int .i64 (i : Nat))] ∧ A' = A ++ [.cells [.str u.name,.slice (pEs u.params),.slice (iEs u.body),.slice (sEs u.face)],.cells [.str v.name,.slice (pEs v.params),.slice (iEs v.body),.slice (sEs v.face)]]) (fun e _=>u.params.length - (intOf (Abs.look 5 e)).toNat) ?_ ?_
          · simp only [zW,zX,zD,builtinA,isLeaf,const1,ustrA,simprocAttr,ti3,ti9,ti29,ti30,ti31,ti33,ti70,ti130,ti132,ca23,ca24,cf,Try.results7,h1]
            exact ⟨0,by omega,rfl,rfl⟩
          · rintro e A' ⟨i,hi,hq,rfl,rfl⟩
            by_cases hlt : i < u.params.length
            · have d1 : decide ((i : Int) < (u.params.length : Int)) = true:=by simp; omega
              have pi : 0 ≤ (i : Int) ∧ (i : Int) < (u.params.length : Int):=by omega
              have pj : 0 ≤ (i : Int) ∧ (i : Int) < (v.params.length : Int):=by omega
              have hj : i < v.params.length:=by omega
              have hg:=pEs_getD hlt
              have hg2:=pEs_getD hj
              have hpc:=hps _ (pm_mem hlt) (v.params.getD i pm0)
              rw [CG.allB_at pm0 u.params v.params hlt hj] at hq
              have hi1 : IntKind.i64.wrap ((i : Int) + 1) = ((i + 1 : Nat) : Int):=by rw [wrap64 (by omega) (by omega)]; rfl
              generalize u.params.getD i pm0 = x at *
              generalize v.params.getD i pm0 = y at *
              simp only [pE] at hg hg2
              by_cases n1 : x.name = y.name
              · cases hb1 : sisB x.sig y.sig with
                | true =>
                  have hpm : pmI x y = true:=by rw [pmI,decide_eq_true n1,hb1]; rfl
                  rw [hb1] at hpc
                  rw [hpm,Bool.true_and] at hq
                  simp only [zW,zX,zD,builtinA,isLeaf,const1,ustrA,simprocAttr,ti3,ti9,ti29,ti30,ti31,ti33,ti70,ti130,ti132,ca23,ca24,cf,Try.results7,pEs_length,d1,hg,hg2,n1]
                  refine .inl ⟨by kernel_rfl,by kernel_rfl,pi,pj,?_⟩
                  refine ⟨pi,pj,?_⟩
                  refine callD_intro (by simp only [zW,zX,zD,builtinA,isLeaf,const1,ustrA,simprocAttr,Option.map_some] <;> rfl) (hpc _) ?_ rfl
                  simp only [zW,zX,zD,builtinA,isLeaf,const1,ustrA,simprocAttr,ti3,ti9,ti29,ti30,ti31,ti33,ti70,ti130,ti132,ca23,ca24,cf,Try.results7,hi1,LoopK_eq]
                  refine ⟨⟨i + 1,by omega,hq,rfl⟩,?_⟩
                  simp only [intOf]; omega
                | false =>
                  have hpm : pmI x y = false:=by rw [pmI,hb1,Bool.and_false]
                  rw [hb1] at hpc
                  rw [hpm,Bool.false_and] at hq
                  simp only [zW,zX,zD,builtinA,isLeaf,const1,ustrA,simprocAttr,ti3,ti9,ti29,ti30,ti31,ti33,ti70,ti130,ti132,ca23,ca24,cf,Try.results7,pEs_length,d1,hg,hg2,n1]
                  refine .inl ⟨by kernel_rfl,by kernel_rfl,pi,pj,?_⟩
                  refine ⟨pi,pj,?_⟩
                  refine callD_intro (by simp only [zW,zX,zD,builtinA,isLeaf,const1,ustrA,simprocAttr,Option.map_some] <;> rfl) (hpc _) ?_ rfl
                  simp only [zW,zX,zD,builtinA,isLeaf,const1,ustrA,simprocAttr,ti3,ti9,ti29,ti30,ti31,ti33,ti70,ti130,ti132,ca23,ca24,cf,Try.results7]
                  rw [← hq]
              · have hpm : pmI x y = false:=by rw [pmI,decide_eq_false n1,Bool.false_and]
                rw [hpm,Bool.false_and] at hq
                simp only [zW,zX,zD,builtinA,isLeaf,const1,ustrA,simprocAttr,ti3,ti9,ti29,ti30,ti31,ti33,ti70,ti130,ti132,ca23,ca24,cf,Try.results7,pEs_length,d1,hg,hg2]
                refine .inl ⟨by kernel_rfl,by kernel_rfl,pi,pj,?_⟩
                simp only [zW,zX,zD,builtinA,isLeaf,const1,ustrA,simprocAttr,ti3,ti9,ti29,ti30,ti31,ti33,ti70,ti130,ti132,ca23,ca24,cf,Try.results7,pEs_length,hg,hg2,n1]
                rw [← hq]
            · have d1 : decide ((i : Int) < (u.params.length : Int)) = false:=by simp; omega
              have : i = u.params.length:=by omega
              subst this
              have hb0 : v.params.drop u.params.length = []:=by simp; omega
              rw [List.drop_length,hb0,CG.allB] at hq
              simp only [zW,zX,zD,builtinA,isLeaf,const1,ustrA,simprocAttr,ti3,ti9,ti29,ti30,ti31,ti33,ti70,ti130,ti132,ca23,ca24,cf,Try.results7,pEs_length,d1]
              rw [← hq]
        | false =>
          have hun : unB u v = false:=by rw [unB,h4,Bool.and_false]
          rw [hun]
          rw [h3] at hst
          rw [h4] at hsg
          refine acalls_enter (cf:=cf 72 [0,1,2,3,4,5,35,40,71]) foll Try.func7 Try.ntmps7 (by simp [cf]) ?_
          simp only [Try.f7,EnterK_some,zW,zX,zD,builtinA,isLeaf,const1,ustrA,simprocAttr,ti3,ti9,ti29,ti30,ti31,ti33,ti70,ti130,ti132,ca23,ca24,cf,Try.results7]
          simp only [zW,zX,zD,builtinA,isLeaf,const1,ustrA,simprocAttr,ti3,ti9,ti29,ti30,ti31,ti33,ti70,ti130,ti132,ca23,ca24,cf,Try.results7,h1,pEs_length,d2,d2']
          refine callK_intro (by simp only [zW,zX,zD,builtinA,isLeaf,const1,ustrA,simprocAttr,Option.map_some]; rfl) (hst _) ?_ rfl; rintro v A' ⟨rfl,rfl⟩
          simp only [zW,zX,zD,builtinA,isLeaf,const1,ustrA,simprocAttr,ti3,ti9,ti29,ti30,ti31,ti33,ti70,ti130,ti132,ca23,ca24,cf,Try.results7]
          refine callK_intro (by simp only [zW,zX,zD,builtinA,isLeaf,const1,ustrA,simprocAttr,Option.map_some]; rfl) (hsg _) ?_ rfl; rintro v A' ⟨rfl,rfl⟩
          simp only [zW,zX,zD,builtinA,isLeaf,const1,ustrA,simprocAttr,ti3,ti9,ti29,ti30,ti31,ti33,ti70,ti130,ti132,ca23,ca24,cf,Try.results7]
      | false =>
        have hun : unB u v = false:=by rw [unB,h3,Bool.and_false,Bool.false_and]
        rw [hun]
        rw [h3] at hst
        refine acalls_enter (cf:=cf 72 [0,1,2,3,4,5,35,40,71]) foll Try.func7 Try.ntmps7 (by simp [cf]) ?_
        simp only [Try.f7,EnterK_some,zW,zX,zD,builtinA,isLeaf,const1,ustrA,simprocAttr,ti3,ti9,ti29,ti30,ti31,ti33,ti70,ti130,ti132,ca23,ca24,cf,Try.results7]
        simp only [zW,zX,zD,builtinA,isLeaf,const1,ustrA,simprocAttr,ti3,ti9,ti29,ti30,ti31,ti33,ti70,ti130,ti132,ca23,ca24,cf,Try.results7,h1,pEs_length,d2,d2']
        refine callK_intro (by simp only [zW,zX,zD,builtinA,isLeaf,const1,ustrA,simprocAttr,Option.map_some]; rfl) (hst _) ?_ rfl; rintro v A' ⟨rfl,rfl⟩
        simp only [zW,zX,zD,builtinA,isLeaf,const1,ustrA,simprocAttr,ti3,ti9,ti29,ti30,ti31,ti33,ti70,ti130,ti132,ca23,ca24,cf,Try.results7]
    · have d2 : decide ((u.params.length : Int) = (v.params.length : Int)) = false:=decide_eq_false (by omega)
      have d2' : decide (¬ (u.params.length : Int) = (v.params.length : Int)) = true:=decide_eq_true (by omega)
      have hun : unB u v = false:=by rw [unB,CG.allB_len h2,Bool.and_false,Bool.false_and,Bool.false_and]
      rw [hun]
      refine acalls_enter (cf:=cf 72 [0,1,2,3,4,5,35,40,71]) foll Try.func7 Try.ntmps7 (by simp [cf]) ?_
      simp only [Try.f7,EnterK_some,zW,zX,zD,builtinA,isLeaf,const1,ustrA,simprocAttr,ti3,ti9,ti29,ti30,ti31,ti33,ti70,ti130,ti132,ca23,ca24,cf,Try.results7]
      simp only [zW,zX,zD,builtinA,isLeaf,const1,ustrA,simprocAttr,ti3,ti9,ti29,ti30,ti31,ti33,ti70,ti130,ti132,ca23,ca24,cf,Try.results7,h1,pEs_length,d2,d2']
  · have hun : unB u v = false:=by rw [unB,decide_eq_false h1,Bool.false_and,Bool.false_and,Bool.false_and]
    rw [hun]
    refine acalls_enter (cf:=cf 72 [0,1,2,3,4,5,35,40,71]) foll Try.func7 Try.ntmps7 (by simp [cf]) ?_
    simp only [Try.f7,EnterK_some,zW,zX,zD,builtinA,isLeaf,const1,ustrA,simprocAttr,ti3,ti9,ti29,ti30,ti31,ti33,ti70,ti130,ti132,ca23,ca24,cf,Try.results7]
    simp only [zW,zX,zD,builtinA,isLeaf,const1,ustrA,simprocAttr,ti3,ti9,ti29,ti30,ti31,ti33,ti70,ti130,ti132,ca23,ca24,cf,Try.results7,h1]
end Go.Proofs.Ytijlnkfiadajhaa
/- Lists of names as data, and what the laws' helpers do with them. -/
set_option linter.unusedVariables false
set_option linter.unusedSimpArgs false
namespace Go.Proofs.Ytijlnkfiadajhaa
open Go.Abs Go.RowKit Go.ChangeShapes Go.WideShapes Go.ChangeAt Go.ChangeMaps
abbrev Nms:=List (List UInt8)
def aEs (l : Nms) : List (List AV):=l.map fun s=>[AV.str s]
def szNs (l : Nms) : Nat:=(l.map List.length).sum
def NsOk (l : Nms) : Prop:=l.length < 2 ^ 63 ∧ ∀ x ∈ l,x.length < 2 ^ 63
def zns : List AV:=[.str []]
theorem aEs_length (l : Nms) : (aEs l).length = l.length:=by simp [aEs]
theorem aEs_getD {l : Nms} {i : Nat} (h : i < l.length) : (aEs l).getD i [] = [.str (l.getD i [])]:=by simp [aEs,List.getD,h]
theorem ns_mem {l : Nms} {i : Nat} (h : i < l.length) : l.getD i [] ∈ l:=by simp [List.getD,h]
theorem ns_take {l : Nms} {i : Nat} (h : i < l.length) : l.take (i + 1) = l.take i ++ [l.getD i []]:=by
  rw [List.take_add_one]; simp [List.getD,h]
theorem szNs_take {l : Nms} {i : Nat} (h : i < l.length) : szNs (l.take (i + 1)) = szNs (l.take i) + (l.getD i []).length:=by
  rw [ns_take h]; simp [szNs]
theorem szNs_le (l : Nms) (i : Nat) : szNs (l.take i) ≤ szNs l:=by
  have h : szNs l = szNs (l.take i) + szNs (l.drop i):=by
    conv=>lhs; rw [← List.take_append_drop i l]
    simp only [szNs,List.map_append,List.sum_append]
  omega
theorem nrow_step {l : Nms} {i : Nat} (h : i < l.length) : (aEs (l.take i) ++ List.replicate (l.length - i) zns).set i (AV.str (l.getD i []) :: List.drop 1 ((aEs (l.take i) ++ List.replicate (l.length - i) zns).getD i [])) = aEs (l.take (i + 1)) ++ List.replicate (l.length - (i + 1)) zns:=by
  have e1 : (aEs (l.take i)).length = i:=by rw [aEs_length]; simp; omega
  have e2 : List.drop 1 ((aEs (l.take i) ++ List.replicate (l.length - i) zns).getD i []) = []:=by
    have e3 : l.length - i = (l.length - (i + 1)) + 1:=by omega
    rw [List.getD,List.getElem?_append_right (by omega),e1,Nat.sub_self,e3,List.replicate_succ]
    rfl
  have e4 : l.length - i = (l.length - (i + 1)) + 1:=by omega
  rw [e2,List.set_append_right _ _ (by omega),e1,Nat.sub_self,e4,List.replicate_succ,List.set_cons_zero]
  simp only [aEs]
  rw [List.take_add_one,List.map_append,List.append_assoc]
  simp [List.getD,h]
set_option maxRecDepth 100000 in
theorem laws_szStringS (ks : Nms) (hl : ks.length < 2 ^ 63) (hk : ∀ t ∈ ks,t.length < 2 ^ 63) (l : Int) (A : List Box) (h0 : 0 ≤ l) (h1 : l ≤ 1048576) :
    ACalls Try.prog 93 [.aslice (aEs ks),.int .i64 l] A (fun v A'=>v = .int .i64 (left l (ks.length + szNs ks)) ∧ A' = A):=by
  have hw : IntKind.i64.wrap (l - ↑(aEs ks).length) = l - ks.length:=by rw [aEs_length]; exact wrap64 (by omega) (by omega)
  refine acalls_enter (cf:=cf 28 [0,1,4,5,11,15,26]) foll Try.func93 Try.ntmps93 (by simp [cf]) ?_
  simp only [Try.f93,EnterK_some,zW,zX,zD,builtinA,isLeaf,const1,ustrA,simprocAttr,ti3,ti9,ti100,cf,Try.results93]
  rw [hw]
  refine condK_intro (fun h=>?_) (fun h=>?_)
  · simp only [zW,zX,zD,builtinA,isLeaf,const1,ustrA,simprocAttr,ti3,ti9,ti100,cf,Try.results93]
    have : ¬ ((ks.length + szNs ks : Nat) : Int) ≤ l:=by simp at h; omega
    rw [left,if_neg this]
  · simp only [zW,zX,zD,builtinA,isLeaf,const1,ustrA,simprocAttr,ti3,ti9,ti100,cf,Try.results93]
    refine aloop_intro [0,1,5] (fun e A'=>∃ i,i ≤ ks.length ∧ ((ks.length + szNs (ks.take i) : Nat) : Int) ≤ l ∧ e = [(0,.aslice (aEs ks)),(1,.int .i64 (l - (ks.length + szNs (ks.take i) : Nat))),(5,.int .i64 i)] ∧ A' = A) (fun e _=>ks.length - (intOf (Abs.look 5 e)).toNat) ?_ ?_
    · refine ⟨0,by omega,?_,?_,rfl⟩
      · simp at h; simp [szNs]; omega
      · simp only [zW,zX,zD,builtinA,isLeaf,const1,ustrA,simprocAttr,ti3,ti9,ti100,cf,Try.results93]
        simp [szNs]
    · rintro e A' ⟨i,hi,hle,rfl,rfl⟩
      simp only [zW,zX,zD,builtinA,isLeaf,const1,ustrA,simprocAttr,ti3,ti9,ti100,cf,Try.results93]
      refine condK_intro (fun h2=>?_) (fun h2=>?_)
      · have hi2 : i < ks.length:=by simp [aEs_length] at h2; exact h2
        have he:=aEs_getD hi2
        have hm:=hk _ (ns_mem hi2)
        have hs:=szNs_take hi2
        have hz:=szNs_le ks (i + 1)
        have hw2 : IntKind.i64.wrap (l - ((ks.length + szNs (ks.take i) : Nat) : Int) - ((ks.getD i []).length : Int)) = l - ((ks.length + szNs (ks.take (i + 1)) : Nat) : Int):=by rw [wrap64 (by omega) (by omega)]; omega
        have hi1 : IntKind.i64.wrap ((i : Int) + 1) = ((i + 1 : Nat) : Int):=by rw [wrap64 (by omega) (by omega)]; rfl
        simp only [zW,zX,zD,builtinA,isLeaf,const1,ustrA,simprocAttr,ti3,ti9,ti100,cf,Try.results93,he,aEs_length]
        refine ⟨⟨by omega,by omega⟩,?_⟩
        rw [hw2]
        by_cases hf : ((ks.length + szNs (ks.take (i + 1)) : Nat) : Int) ≤ l
        · have hn : decide (l - ((ks.length + szNs (ks.take (i + 1)) : Nat) : Int) < 0) = false:=by simp only [decide_eq_false_iff_not]; omega
          simp only [zW,zX,zD,builtinA,isLeaf,const1,ustrA,simprocAttr,ti3,ti9,ti100,cf,Try.results93,hn,hi1,LoopK_eq,aEs_length]
          refine ⟨⟨i + 1,by omega,hf,rfl⟩,?_⟩
          simp only [intOf]
          omega
        · have hn : decide (l - ((ks.length + szNs (ks.take (i + 1)) : Nat) : Int) < 0) = true:=by simp only [decide_eq_true_eq]; omega
          rw [left,if_neg (by omega)]
          simp only [zW,zX,zD,builtinA,isLeaf,const1,ustrA,simprocAttr,ti3,ti9,ti100,cf,Try.results93,hn]
      · simp only [zW,zX,zD,builtinA,isLeaf,const1,ustrA,simprocAttr,ti3,ti9,ti100,cf,Try.results93]
        have : i = ks.length:=by simp [aEs_length] at h2; omega
        subst this
        rw [List.take_length] at hle ⊢
        rw [left,if_pos hle]
set_option maxRecDepth 100000 in
theorem laws_toStringS (ks : Nms) (hl : ks.length ≤ 1048576) (A : List Box) :
    ACalls Try.prog 95 [.aslice (aEs ks)] A (fun v A'=>v = .slice (aEs ks) ∧ A' = A):=by
  have hl2 : ((aEs ks).length : Int) ≤ 1048576:=by rw [aEs_length]; omega
  refine acalls_enter (cf:=cf 22 [0,2,3,4,11]) foll Try.func95 Try.ntmps95 (by simp [cf]) ?_
  simp only [Try.f95,EnterK_some,zW,zX,zD,builtinA,isLeaf,const1,ustrA,simprocAttr,ti3,ti9,ti100,cf,Try.results95]
  refine ⟨⟨by omega,by omega,by omega⟩,?_⟩
  refine aloop_intro [0,3,4] (fun e A'=>∃ i,i ≤ ks.length ∧ e = [(0,.aslice (aEs ks)),(3,.own A.length),(4,.int .i64 i)] ∧ A' = A ++ [.row 1 (aEs (ks.take i) ++ List.replicate (ks.length - i) zns) 0]) (fun e _=>ks.length - (intOf (Abs.look 4 e)).toNat) ?_ ?_
  · simp only [zW,zX,zD,builtinA,isLeaf,const1,ustrA,simprocAttr,ti3,ti9,ti100,cf,Try.results95]
    exact ⟨0,by omega,rfl,by rw [aEs_length]; simp [aEs,zns]⟩
  · rintro e A' ⟨i,hi,rfl,rfl⟩
    simp only [zW,zX,zD,builtinA,isLeaf,const1,ustrA,simprocAttr,ti3,ti9,ti100,cf,Try.results95,aEs_length]
    refine condK_intro (fun h2=>?_) (fun h2=>?_)
    · have hi2 : i < ks.length:=by simpa using h2
      have he:=aEs_getD hi2
      have hi1 : IntKind.i64.wrap ((i : Int) + 1) = ((i + 1 : Nat) : Int):=by rw [wrap64 (by omega) (by omega)]; rfl
      have hlen : (List.take i ks).length + (List.replicate (ks.length - i) zns).length = ks.length:=by
        simp; omega
      simp only [zW,zX,zD,builtinA,isLeaf,const1,ustrA,simprocAttr,ti3,ti9,ti100,cf,Try.results95,he,aEs_length,nrow_step hi2,hi1,LoopK_eq]
      rw [hlen]
      refine ⟨⟨by omega,by omega⟩,⟨by omega,by omega⟩,⟨by omega,by omega,fun v hv=>by rw [List.mem_singleton.1 hv]⟩,⟨i + 1,by omega,rfl,rfl⟩,?_⟩
      simp only [intOf]
      omega
    · simp only [zW,zX,zD,builtinA,isLeaf,const1,ustrA,simprocAttr,ti3,ti9,ti100,cf,Try.results95]
      have : i = ks.length:=by simp at h2; omega
      subst this
      simp [List.take_length]
set_option maxRecDepth 100000 in
theorem laws_eqStringS (ks : Nms) (hl : ks.length < 2 ^ 63) (A : List Box) :
    ACalls Try.prog 101 [.slice (aEs ks),.slice (aEs ks)] A (fun v A'=>v = .bool true ∧ A' = A):=by
  refine acalls_enter (cf:=cf 26 [0,1,4,5,10,14,25]) foll Try.func101 Try.ntmps101 (by simp [cf]) ?_
  simp only [Try.f101,EnterK_some,zW,zX,zD,builtinA,isLeaf,const1,ustrA,simprocAttr,ti3,ti9,ti100,cf,Try.results101]
  refine aloop_intro [0,1,5] (fun e A'=>∃ i,i ≤ ks.length ∧ e = [(0,.slice (aEs ks)),(1,.slice (aEs ks)),(5,.int .i64 i)] ∧ A' = A) (fun e _=>ks.length - (intOf (Abs.look 5 e)).toNat) ?_ ?_
  · simp only [zW,zX,zD,builtinA,isLeaf,const1,ustrA,simprocAttr,ti3,ti9,ti100,cf,Try.results101]
    exact ⟨0,by omega,rfl⟩
  · rintro e A' ⟨i,hi,rfl,rfl⟩
    simp only [zW,zX,zD,builtinA,isLeaf,const1,ustrA,simprocAttr,ti3,ti9,ti100,cf,Try.results101,aEs_length]
    refine condK_intro (fun h2=>?_) (fun h2=>?_)
    · have hi2 : i < ks.length:=by simpa using h2
      have he:=aEs_getD hi2
      have hi1 : IntKind.i64.wrap ((i : Int) + 1) = ((i + 1 : Nat) : Int):=by rw [wrap64 (by omega) (by omega)]; rfl
      simp only [zW,zX,zD,builtinA,isLeaf,const1,ustrA,simprocAttr,ti3,ti9,ti100,cf,Try.results101,he,aEs_length]
      refine .inl ⟨by kernel_rfl,by kernel_rfl,⟨by omega,by omega⟩,⟨by omega,by omega⟩,?_⟩
      simp only [zW,zX,zD,builtinA,isLeaf,const1,ustrA,simprocAttr,ti3,ti9,ti100,cf,Try.results101,hi1,LoopK_eq]
      refine ⟨⟨i + 1,by omega,rfl⟩,?_⟩
      simp only [intOf]
      omega
    · simp only [zW,zX,zD,builtinA,isLeaf,const1,ustrA,simprocAttr,ti3,ti9,ti100,cf,Try.results101]
theorem cNS : Try.prog.cellsOf 100 = 1:=by kernel_rfl
theorem ns_of {cz : List AV} (h : Cells Try.prog 100 cz) : ∃ l,cz = [.aslice (aEs l)] ∧ NsOk l:=by
  generalize ht : 100 = t at h
  cases h with
  | int h1 h2=>subst ht; rw [Try.underlying100] at h1; injection h1 with h1; cases h1
  | bool h1=>subst ht; rw [Try.underlying100] at h1; injection h1 with h1; cases h1
  | str h1=>subst ht; rw [Try.underlying100] at h1; injection h1 with h1; cases h1
  | slice h1 h2 h3 =>
    subst ht
    rw [Try.underlying100] at h1
    injection h1 with h1
    injection h1 with h1
    subst h1
    have hm : maxLen = 2 ^ 63 - 1:=rfl
    obtain ⟨ks,k1,k2,k3⟩:=list_enc (f:=fun s=>[AV.str s]) (Q:=fun s : List UInt8=>s.length < 2 ^ 63) fun r hr=>by
      obtain ⟨m,e,l⟩:=cells_str Try.underlying9 (h3 r hr)
      exact ⟨m,e,by omega⟩
    refine ⟨ks,by rw [aEs,k1],?_,k3⟩
    rw [k2]; omega
  | @struct t fs cs h1 h2 h3=>subst ht; rw [Try.underlying100] at h1; injection h1 with h1; cases h1
end Go.Proofs.Ytijlnkfiadajhaa
