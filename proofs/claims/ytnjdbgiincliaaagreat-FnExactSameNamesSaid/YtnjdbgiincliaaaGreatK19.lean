/- PrChg, PrSn. -/
import Derived.Test.YtnjdbgiincliaaaGreatK18
import Derived.Test.YtnjdbgiincliaaaGreatAbsW3
/- Programs that declare the same names in the same ways. -/
set_option linter.unusedVariables false
set_option linter.unusedSimpArgs false
namespace Go.Proofs.YtnjdbgiincliaaaGreat
open Go.Abs
def par0 (d : DeI) : Bool:=decide (d.un.params.length = 0)
def l10B (d e : DeI) : Bool:=(decide (nmDe d = nmDe e) && decide (isU d = isU e)) && decide (par0 d = par0 e)
noncomputable def snB (p q : PrI) : Bool:=((progB p && progB q) && decide (p.decls.length = q.decls.length)) && (List.range p.decls.length).all fun i=>l10B (p.decls.getD i de0) (q.decls.getD i de0)
set_option maxRecDepth 100000 in
set_option maxHeartbeats 1000000 in
theorem spec_l10Same (d e : DeI) (A : List Box) : ACalls Tryz.prog 84 [.agg (dE d),.agg (dE e)] A (fun r A'=>r = .bool (l10B d e) ∧ A' = A):=by
  have hn1:=fun A=>spec_l8Name d A
  have hn2:=fun A=>spec_l8Name e A
  have hi1:=fun A=>spec_l8IsUnit d A
  have hi2:=fun A=>spec_l8IsUnit e A
  rw [dE] at hn1 hi1
  rw [dE] at hn2 hi2
  rw [dE,dE,l10B]
  have z1 : decide ((d.un.params.length : Int) = 0) = par0 d:=by rw [par0,Bool.eq_iff_iff]; simp only [decide_eq_true_eq]; omega
  have z2 : decide ((e.un.params.length : Int) = 0) = par0 e:=by rw [par0,Bool.eq_iff_iff]; simp only [decide_eq_true_eq]; omega
  by_cases h1 : nmDe d = nmDe e
  · refine acalls_enter (cf:=cf 30 [0,1,2,3,4]) foll Tryz.func84 Tryz.ntmps84 (by simp [cf]) ?_
    simp only [Tryz.f84,EnterK_some,zW,zX,zD,builtinA,isLeaf,const1,ustrA,simprocAttr,ti3,ti4,ti9,ti77,ti80,ti90,ti194,ca79,ca170,cf,Tryz.results84]
    refine .inl ⟨by kernel_rfl,by kernel_rfl,?_⟩
    refine callD_intro (by simp only [zW,zX,zD,builtinA,isLeaf,const1,ustrA,simprocAttr,Option.map_some] <;> rfl) (hn1 _) ?_ rfl
    simp only [zW,zX,zD,builtinA,isLeaf,const1,ustrA,simprocAttr,ti3,ti4,ti9,ti77,ti80,ti90,ti194,ca79,ca170,cf,Tryz.results84]
    refine callD_intro (by simp only [zW,zX,zD,builtinA,isLeaf,const1,ustrA,simprocAttr,Option.map_some] <;> rfl) (hn2 _) ?_ rfl
    simp only [zW,zX,zD,builtinA,isLeaf,const1,ustrA,simprocAttr,ti3,ti4,ti9,ti77,ti80,ti90,ti194,ca79,ca170,cf,Tryz.results84,decide_eq_true h1]
    refine callD_intro (by simp only [zW,zX,zD,builtinA,isLeaf,const1,ustrA,simprocAttr,Option.map_some] <;> rfl) (hi1 _) ?_ rfl
    simp only [zW,zX,zD,builtinA,isLeaf,const1,ustrA,simprocAttr,ti3,ti4,ti9,ti77,ti80,ti90,ti194,ca79,ca170,cf,Tryz.results84]
    refine callD_intro (by simp only [zW,zX,zD,builtinA,isLeaf,const1,ustrA,simprocAttr,Option.map_some] <;> rfl) (hi2 _) ?_ rfl
    cases isU d <;> cases isU e <;> cases hp1 : par0 d <;> cases hp2 : par0 e <;> rw [hp1] at z1 <;> rw [hp2] at z2
    all_goals simp only [zW,zX,zD,builtinA,isLeaf,const1,ustrA,simprocAttr,ti3,ti4,ti9,ti77,ti80,ti90,ti194,ca79,ca170,cf,Tryz.results84,pEs_length,z1,z2]
    all_goals rfl
  · refine acalls_enter (cf:=cf 30 [0,1,2,3,4]) foll Tryz.func84 Tryz.ntmps84 (by simp [cf]) ?_
    simp only [Tryz.f84,EnterK_some,zW,zX,zD,builtinA,isLeaf,const1,ustrA,simprocAttr,ti3,ti4,ti9,ti77,ti80,ti90,ti194,ca79,ca170,cf,Tryz.results84]
    refine .inl ⟨by kernel_rfl,by kernel_rfl,?_⟩
    refine callD_intro (by simp only [zW,zX,zD,builtinA,isLeaf,const1,ustrA,simprocAttr,Option.map_some] <;> rfl) (hn1 _) ?_ rfl
    simp only [zW,zX,zD,builtinA,isLeaf,const1,ustrA,simprocAttr,ti3,ti4,ti9,ti77,ti80,ti90,ti194,ca79,ca170,cf,Tryz.results84]
    refine callD_intro (by simp only [zW,zX,zD,builtinA,isLeaf,const1,ustrA,simprocAttr,Option.map_some] <;> rfl) (hn2 _) ?_ rfl
    simp only [zW,zX,zD,builtinA,isLeaf,const1,ustrA,simprocAttr,ti3,ti4,ti9,ti77,ti80,ti90,ti194,ca79,ca170,cf,Tryz.results84,decide_eq_false h1]
theorem snB_no {p q : PrI} {i : Nat} (hi : i < p.decls.length) (h : l10B (p.decls.getD i de0) (q.decls.getD i de0) = false) : snB p q = false:=by
  unfold snB
  have : ((List.range p.decls.length).all fun i=>l10B (p.decls.getD i de0) (q.decls.getD i de0)) = false:=by
    rw [List.all_eq_false]
    exact ⟨i,List.mem_range.mpr hi,by rw [h]; decide⟩
  rw [this]; simp
theorem snB_yes {p q : PrI} (h1 : progB p = true) (h2 : progB q = true) (h3 : p.decls.length = q.decls.length) (h : ∀ i,i < p.decls.length → l10B (p.decls.getD i de0) (q.decls.getD i de0) = true) : snB p q = true:=by
  unfold snB
  have : ((List.range p.decls.length).all fun i=>l10B (p.decls.getD i de0) (q.decls.getD i de0)) = true:=by
    rw [List.all_eq_true]
    exact fun k hk=>h k (List.mem_range.mp hk)
  rw [this,h1,h2,decide_eq_true h3]; rfl
set_option maxRecDepth 100000 in
set_option maxHeartbeats 2000000 in
theorem spec_SameNames (p q : PrI) (hp : PrBig p) (hq : PrBig q) (A : List Box) : ACalls Tryz.prog 20 [.agg (gE p),.agg (gE q)] A (fun r A'=>r = .bool (snB p q) ∧ A' = A):=by
  have hv1:=fun A=>spec_ProgramValid p hp A
  have hv2:=fun A=>spec_ProgramValid q hq A
  have hl1 : p.decls.length ≤ 1048576:=hp.1.1
  have hl2 : q.decls.length ≤ 1048576:=hq.1.1
  have xl1:=encX_length p.main
  have xl2:=encX_length q.main
  have xt1:=encX_take p.main
  have xt2:=encX_take q.main
  have xf1 : ∀ A,frzL (AV.slice (dEs p.decls) :: encX p.main) A = some (AV.slice (dEs p.decls) :: encX p.main,A):=fun A=>frzL_gE p A
  have xf2 : ∀ A,frzL (AV.slice (dEs q.decls) :: encX q.main) A = some (AV.slice (dEs q.decls) :: encX q.main,A):=fun A=>frzL_gE q A
  rw [gE] at hv1
  rw [gE] at hv2
  rw [gE,gE]
  generalize encX p.main = xm at *
  generalize encX q.main = ym at *
  have x0 : 0 < xm.length + 1:=by omega
  have y0 : 0 < ym.length + 1:=by omega
  have x9 : 9 ≤ xm.length:=by omega
  have y9 : 9 ≤ ym.length:=by omega
  by_cases h1 : progB p = true
  rotate_left
  · have h1 : progB p = false:=by simpa using h1
    rw [h1] at hv1
    have hs : snB p q = false:=by unfold snB; rw [h1]; rfl
    refine acalls_enter (cf:=cf 42 [0,1,2,3,4,5,22,27,41]) foll Tryz.func20 Tryz.ntmps20 (by simp [cf]) ?_
    simp only [Tryz.f20,EnterK_some,zW,zX,zD,builtinA,isLeaf,const1,ustrA,simprocAttr,ti3,ti33,ti41,ti90,ca16,ca84,cf,Tryz.results20]
    simp only [zW,zX,zD,builtinA,isLeaf,const1,ustrA,simprocAttr,ti3,ti33,ti41,ti90,ca16,ca84,cf,Tryz.results20,x0,y0,x9,y9,xt1,xt2]
    refine callK_intro (by simp only [zW,zX,zD,builtinA,isLeaf,const1,ustrA,simprocAttr,xf1,Option.map_some]; rfl) (hv1 _) ?_ rfl; rintro v A' ⟨rfl,rfl⟩
    simp only [zW,zX,zD,builtinA,isLeaf,const1,ustrA,simprocAttr,ti3,ti33,ti41,ti90,ca16,ca84,cf,Tryz.results20]
    rw [hs]
  rw [h1] at hv1
  by_cases h2 : progB q = true
  rotate_left
  · have h2 : progB q = false:=by simpa using h2
    rw [h2] at hv2
    have hs : snB p q = false:=by unfold snB; rw [h2]; simp
    refine acalls_enter (cf:=cf 42 [0,1,2,3,4,5,22,27,41]) foll Tryz.func20 Tryz.ntmps20 (by simp [cf]) ?_
    simp only [Tryz.f20,EnterK_some,zW,zX,zD,builtinA,isLeaf,const1,ustrA,simprocAttr,ti3,ti33,ti41,ti90,ca16,ca84,cf,Tryz.results20]
    simp only [zW,zX,zD,builtinA,isLeaf,const1,ustrA,simprocAttr,ti3,ti33,ti41,ti90,ca16,ca84,cf,Tryz.results20,x0,y0,x9,y9,xt1,xt2]
    refine callK_intro (by simp only [zW,zX,zD,builtinA,isLeaf,const1,ustrA,simprocAttr,xf1,Option.map_some]; rfl) (hv1 _) ?_ rfl; rintro v A' ⟨rfl,rfl⟩
    simp only [zW,zX,zD,builtinA,isLeaf,const1,ustrA,simprocAttr,ti3,ti33,ti41,ti90,ca16,ca84,cf,Tryz.results20,x0,y0,x9,y9,xt1,xt2]
    refine callK_intro (by simp only [zW,zX,zD,builtinA,isLeaf,const1,ustrA,simprocAttr,xf2,Option.map_some]; rfl) (hv2 _) ?_ rfl; rintro v A' ⟨rfl,rfl⟩
    simp only [zW,zX,zD,builtinA,isLeaf,const1,ustrA,simprocAttr,ti3,ti33,ti41,ti90,ca16,ca84,cf,Tryz.results20]
    rw [hs]
  rw [h2] at hv2
  by_cases h3 : p.decls.length = q.decls.length
  rotate_left
  · have hs : snB p q = false:=by unfold snB; rw [decide_eq_false h3]; simp
    have d3 : decide ((p.decls.length : Int) = (q.decls.length : Int)) = false:=decide_eq_false (by omega)
    refine acalls_enter (cf:=cf 42 [0,1,2,3,4,5,22,27,41]) foll Tryz.func20 Tryz.ntmps20 (by simp [cf]) ?_
    simp only [Tryz.f20,EnterK_some,zW,zX,zD,builtinA,isLeaf,const1,ustrA,simprocAttr,ti3,ti33,ti41,ti90,ca16,ca84,cf,Tryz.results20]
    simp only [zW,zX,zD,builtinA,isLeaf,const1,ustrA,simprocAttr,ti3,ti33,ti41,ti90,ca16,ca84,cf,Tryz.results20,x0,y0,x9,y9,xt1,xt2]
    refine callK_intro (by simp only [zW,zX,zD,builtinA,isLeaf,const1,ustrA,simprocAttr,xf1,Option.map_some]; rfl) (hv1 _) ?_ rfl; rintro v A' ⟨rfl,rfl⟩
    simp only [zW,zX,zD,builtinA,isLeaf,const1,ustrA,simprocAttr,ti3,ti33,ti41,ti90,ca16,ca84,cf,Tryz.results20,x0,y0,x9,y9,xt1,xt2]
    refine callK_intro (by simp only [zW,zX,zD,builtinA,isLeaf,const1,ustrA,simprocAttr,xf2,Option.map_some]; rfl) (hv2 _) ?_ rfl; rintro v A' ⟨rfl,rfl⟩
    simp only [zW,zX,zD,builtinA,isLeaf,const1,ustrA,simprocAttr,ti3,ti33,ti41,ti90,ca16,ca84,cf,Tryz.results20,x0,y0,x9,y9,xt1,xt2,dEs_length,d3]
    rw [hs]
  have d3 : decide ((p.decls.length : Int) = (q.decls.length : Int)) = true:=decide_eq_true (by omega)
  refine acalls_enter (cf:=cf 42 [0,1,2,3,4,5,22,27,41]) foll Tryz.func20 Tryz.ntmps20 (by simp [cf]) ?_
  simp only [Tryz.f20,EnterK_some,zW,zX,zD,builtinA,isLeaf,const1,ustrA,simprocAttr,ti3,ti33,ti41,ti90,ca16,ca84,cf,Tryz.results20]
  simp only [zW,zX,zD,builtinA,isLeaf,const1,ustrA,simprocAttr,ti3,ti33,ti41,ti90,ca16,ca84,cf,Tryz.results20,x0,y0,x9,y9,xt1,xt2]
  refine callK_intro (by simp only [zW,zX,zD,builtinA,isLeaf,const1,ustrA,simprocAttr,xf1,Option.map_some]; rfl) (hv1 _) ?_ rfl; rintro v A' ⟨rfl,rfl⟩
  simp only [zW,zX,zD,builtinA,isLeaf,const1,ustrA,simprocAttr,ti3,ti33,ti41,ti90,ca16,ca84,cf,Tryz.results20,x0,y0,x9,y9,xt1,xt2]
  refine callK_intro (by simp only [zW,zX,zD,builtinA,isLeaf,const1,ustrA,simprocAttr,xf2,Option.map_some]; rfl) (hv2 _) ?_ rfl; rintro v A' ⟨rfl,rfl⟩
  simp only [zW,zX,zD,builtinA,isLeaf,const1,ustrA,simprocAttr,ti3,ti33,ti41,ti90,ca16,ca84,cf,Tryz.results20,x0,y0,x9,y9,xt1,xt2,dEs_length,d3]
  refine aloop_intro [2,3,5] (fun e A'=>∃ i,i ≤ p.decls.length ∧ (∀ k,k < i → l10B (p.decls.getD k de0) (q.decls.getD k de0) = true) ∧ e = [(2,.ptr A.length 0),(3,.ptr (A.length + 1) 0),(5,.int .i64 (i : Nat))] ∧ A' = A ++ [.cells (.slice (dEs p.decls) :: xm),.cells (.slice (dEs q.decls) :: ym)]) (fun e _=>p.decls.length - (intOf (Abs.look 5 e)).toNat) ?_ ?_
  · simp only [zW,zX,zD,builtinA,isLeaf,const1,ustrA,simprocAttr,ti3,ti33,ti41,ti90,ca16,ca84,cf,Tryz.results20]
    exact ⟨0,by omega,fun k hk=>by omega,rfl⟩
  · rintro e A' ⟨i,hi,hqq,rfl,rfl⟩
    by_cases hlt : i < p.decls.length
    · have d1 : decide ((i : Int) < (p.decls.length : Int)) = true:=by simp; omega
      have pi : 0 ≤ (i : Int) ∧ (i : Int) < (p.decls.length : Int):=by omega
      have qi : 0 ≤ (i : Int) ∧ (i : Int) < (q.decls.length : Int):=by omega
      have hg1:=dEs_getD hlt
      have hg2:=dEs_getD (show i < q.decls.length by omega)
      have hi1 : IntKind.i64.wrap ((i : Int) + 1) = ((i + 1 : Nat) : Int):=by rw [wrap64 (by omega) (by omega)]; rfl
      have hno:=@snB_no p q i hlt
      have hnext : l10B (p.decls.getD i de0) (q.decls.getD i de0) = true → ∀ k,k < i + 1 → l10B (p.decls.getD k de0) (q.decls.getD k de0) = true:=fun h k hk=>by
        rcases Nat.lt_succ_iff_lt_or_eq.mp hk with h' | rfl
        · exact hqq k h'
        · exact h
      have hsm:=fun A=>spec_l10Same (p.decls.getD i de0) (q.decls.getD i de0) A
      have a1:=dE_length (p.decls.getD i de0)
      have a2:=dE_length (q.decls.getD i de0)
      have b1:=dE_take (p.decls.getD i de0)
      have b2:=dE_take (q.decls.getD i de0)
      have f1:=fun A=>frzL_dE (p.decls.getD i de0) A
      have f2:=fun A=>frzL_dE (q.decls.getD i de0) A
      generalize l10B (p.decls.getD i de0) (q.decls.getD i de0) = sb at *
      generalize dE (p.decls.getD i de0) = xe at *
      generalize dE (q.decls.getD i de0) = ye at *
      simp only [zW,zX,zD,builtinA,isLeaf,const1,ustrA,simprocAttr,ti3,ti33,ti41,ti90,ca16,ca84,cf,Tryz.results20,x0,y0,dEs_length,d1,hg1,hg2,a1,a2,b1,b2]
      refine .inl ⟨by kernel_rfl,by kernel_rfl,pi,qi,?_⟩
      refine callD_intro (by simp only [zW,zX,zD,builtinA,isLeaf,const1,ustrA,simprocAttr,f1,f2,Option.map_some] <;> rfl) (hsm _) ?_ rfl
      cases sb with
      | false =>
        simp only [zW,zX,zD,builtinA,isLeaf,const1,ustrA,simprocAttr,ti3,ti33,ti41,ti90,ca16,ca84,cf,Tryz.results20]
        rw [hno rfl]
      | true =>
        simp only [zW,zX,zD,builtinA,isLeaf,const1,ustrA,simprocAttr,ti3,ti33,ti41,ti90,ca16,ca84,cf,Tryz.results20,hi1,LoopK_eq]
        refine ⟨⟨i + 1,by omega,hnext rfl,rfl⟩,?_⟩
        simp only [intOf]; omega
    · have d1 : decide ((i : Int) < (p.decls.length : Int)) = false:=by simp; omega
      have e : i = p.decls.length:=by omega
      subst e
      simp only [zW,zX,zD,builtinA,isLeaf,const1,ustrA,simprocAttr,ti3,ti33,ti41,ti90,ca16,ca84,cf,Tryz.results20,x0,y0,dEs_length,d1]
      rw [snB_yes h1 h2 h3 hqq]
end Go.Proofs.YtnjdbgiincliaaaGreat
/- The program's reading of a program and a changed one, and its SameNames. -/
set_option linter.unusedVariables false
set_option linter.unusedSimpArgs false
namespace Go.Proofs.YtnjdbgiincliaaaGreat
open Go.Abs
def kd8 : VE8 → Int
  | .un u=>if 0 < u.params.length then 1 else 0
  | .mk _ _ _=>2
def same8 (x y : VE8) : Bool:=decide (nm8 x = nm8 y) && decide (kd8 x = kd8 y)
def eq8 (xs ys : List VE8) : Bool:=decide (xs.length = ys.length) && (List.range xs.length).all fun i=>same8 (xs.getD i e80) (ys.getD i e80)
theorem eq8_no {xs ys : List VE8} {i : Nat} (hi : i < xs.length) (h : same8 (xs.getD i e80) (ys.getD i e80) = false) : eq8 xs ys = false:=by
  unfold eq8
  have : ((List.range xs.length).all fun i=>same8 (xs.getD i e80) (ys.getD i e80)) = false:=by
    rw [List.all_eq_false]
    exact ⟨i,List.mem_range.mpr hi,by rw [h]; decide⟩
  rw [this]; simp
theorem eq8_yes {xs ys : List VE8} (h3 : xs.length = ys.length) (h : ∀ i,i < xs.length → same8 (xs.getD i e80) (ys.getD i e80) = true) : eq8 xs ys = true:=by
  unfold eq8
  have : ((List.range xs.length).all fun i=>same8 (xs.getD i e80) (ys.getD i e80)) = true:=by
    rw [List.all_eq_true]
    exact fun k hk=>h k (List.mem_range.mp hk)
  rw [this,decide_eq_true h3]; rfl
set_option maxRecDepth 100000 in
theorem un_kind (u : VU) (A : List Box) : ACalls Tryz.prog 378 [.agg (uvE u)] A (fun r A'=>r = .int .i64 (kd8 (.un u)) ∧ A' = A):=by
  rw [uvE,kd8]
  by_cases h : 0 < u.params.length
  · have d : decide ((u.params.length : Int) > 0) = true:=decide_eq_true (by omega)
    have d' : decide ((0 : Int) < (u.params.length : Int)) = true:=decide_eq_true (by omega)
    rw [if_pos h]
    refine acalls_enter (cf:=cf 8 [0,1,2,7]) foll Tryz.func378 Tryz.ntmps378 (by simp [cf]) ?_
    simp only [Tryz.f378,EnterK_some,zW,zX,zD,builtinA,isLeaf,const1,ustrA,simprocAttr,ti3,ti197,ti201,ti311,ti319,cf,Tryz.results378]
    simp only [zW,zX,zD,builtinA,isLeaf,const1,ustrA,simprocAttr,ti3,ti197,ti201,ti311,ti319,cf,Tryz.results378,mRows_length,d,d']
  · have d : decide ((u.params.length : Int) > 0) = false:=decide_eq_false (by omega)
    have d' : decide ((0 : Int) < (u.params.length : Int)) = false:=decide_eq_false (by omega)
    rw [if_neg h]
    refine acalls_enter (cf:=cf 8 [0,1,2,7]) foll Tryz.func378 Tryz.ntmps378 (by simp [cf]) ?_
    simp only [Tryz.f378,EnterK_some,zW,zX,zD,builtinA,isLeaf,const1,ustrA,simprocAttr,ti3,ti197,ti201,ti311,ti319,cf,Tryz.results378]
    simp only [zW,zX,zD,builtinA,isLeaf,const1,ustrA,simprocAttr,ti3,ti197,ti201,ti311,ti319,cf,Tryz.results378,mRows_length,d,d']
set_option maxRecDepth 100000 in
theorem mk_kind (m f : List UInt8) (l : Nms) (A : List Box) : ACalls Tryz.prog 386 [.agg [.str m,.str f,.slice (aEs l)]] A (fun r A'=>r = .int .i64 (kd8 (.mk m f l)) ∧ A' = A):=by
  rw [kd8]
  refine acalls_enter (cf:=cf 3 [0,2]) foll Tryz.func386 Tryz.ntmps386 (by simp [cf]) ?_
  simp only [Tryz.f386,EnterK_some,zW,zX,zD,builtinA,isLeaf,const1,ustrA,simprocAttr,ti324,cf,Tryz.results386]
def pick8 (x y : FuncId) : VE8 → FuncId
  | .un _=>x
  | .mk _ _ _=>y
structure Met8 (name : String) (gs : VE8 → FuncId) : Prop where
  find : ∀ v,methA Tryz.prog (t8 v) name = some (gs v)
  call : ∀ v,callable Tryz.prog (gs v) = true
theorem met82 {name : String} {x y : FuncId} (h1 : methA Tryz.prog 319 name = some x) (h2 : methA Tryz.prog 324 name = some y)
    (c1 : callable Tryz.prog x = true) (c2 : callable Tryz.prog y = true) : Met8 name (pick8 x y) :=
  ⟨fun v=>match v with
    | .un _=>h1
    | .mk _ _ _=>h2,
   fun v=>match v with
    | .un _=>c1
    | .mk _ _ _=>c2⟩
theorem met8_invO {own ow : FuncId → Bool} {name : String} {gs : VE8 → FuncId} {v : VE8} {args : List AV} {A : List Box} {R : AV → List Box → Prop} {N : Nat} {ops : Array Oper} {Q : Env → List Box → Prop} {rest : List Oper} {d : Option Tmp} {e : Env}
    (hm : Met8 name gs) (h : ACalls Tryz.prog (gs v) (x8 v :: args) A R)
    (hk : ∀ r A',R r A' → wpO Tryz.prog ow N ops Q rest (putA N d r e) A') : InvK Tryz.prog own name (.iface (t8 v) (x8 v)) args A (ContO Tryz.prog ow N ops Q rest d e):=by
  have h1:=hm.find v
  have h2:=hm.call v
  generalize gs v = g at h h1 h2
  exact ⟨g,h1,h2,callO_intro h hk⟩
theorem defines8 (x : VE8) (A : List Box) : ACalls Tryz.prog (pick8 377 385 x) [x8 x] A (fun r A'=>r = .str (nm8 x) ∧ A' = A):=by
  cases x with
  | un u=>exact un_defines u A
  | mk m f l=>exact mk_defines m f l A
theorem kind8 (x : VE8) (A : List Box) : ACalls Tryz.prog (pick8 378 386 x) [x8 x] A (fun r A'=>r = .int .i64 (kd8 x) ∧ A' = A):=by
  cases x with
  | un u=>exact un_kind u A
  | mk m f l=>exact mk_kind m f l A
set_option maxRecDepth 100000 in
set_option maxHeartbeats 1000000 in
theorem chg_same (x y : VE8) (A : List Box) : ACalls Tryz.prog 177 [.iface (t8 x) (x8 x),.iface (t8 y) (x8 y)] A (fun r A'=>r = .bool (same8 x y) ∧ A' = A):=by
  have hd1:=defines8 x A
  have hd2:=defines8 y A
  have hk1:=kind8 x A
  have hk2:=kind8 y A
  rw [same8]
  by_cases h1 : nm8 x = nm8 y
  · refine acalls_enter (cf:=cf 17 [0,1,4]) foll Tryz.func177 Tryz.ntmps177 (by simp [cf]) ?_
    simp only [Tryz.f177,EnterK_some,zW,zX,zD,builtinA,isLeaf,const1,ustrA,simprocAttr,ti9,ti257,cf,Tryz.results177]
    refine wpO_invoke _ _ _ _ _ _ _ _ _ _ _ _ _ _ _ _ ?_
    simp only [zW,zX,zD,builtinA,isLeaf,const1,ustrA,simprocAttr,ti9,ti257,cf,Tryz.results177]
    refine met8_invO (met82 (by kernel_rfl) (by kernel_rfl) (by kernel_rfl) (by kernel_rfl)) hd1 ?_
    rintro r A' ⟨rfl,hA⟩
    subst hA
    simp only [zW,zX,zD,builtinA,isLeaf,const1,ustrA,simprocAttr,ti9,ti257,cf,Tryz.results177]
    refine wpO_invoke _ _ _ _ _ _ _ _ _ _ _ _ _ _ _ _ ?_
    simp only [zW,zX,zD,builtinA,isLeaf,const1,ustrA,simprocAttr,ti9,ti257,cf,Tryz.results177]
    refine met8_invO (met82 (by kernel_rfl) (by kernel_rfl) (by kernel_rfl) (by kernel_rfl)) hd2 ?_
    rintro r A' ⟨rfl,hA⟩
    subst hA
    simp only [zW,zX,zD,builtinA,isLeaf,const1,ustrA,simprocAttr,ti9,ti257,cf,Tryz.results177,decide_eq_true h1]
    refine wpO_invoke _ _ _ _ _ _ _ _ _ _ _ _ _ _ _ _ ?_
    simp only [zW,zX,zD,builtinA,isLeaf,const1,ustrA,simprocAttr,ti9,ti257,cf,Tryz.results177]
    refine met8_invO (met82 (by kernel_rfl) (by kernel_rfl) (by kernel_rfl) (by kernel_rfl)) hk1 ?_
    rintro r A' ⟨rfl,hA⟩
    subst hA
    simp only [zW,zX,zD,builtinA,isLeaf,const1,ustrA,simprocAttr,ti9,ti257,cf,Tryz.results177]
    refine wpO_invoke _ _ _ _ _ _ _ _ _ _ _ _ _ _ _ _ ?_
    simp only [zW,zX,zD,builtinA,isLeaf,const1,ustrA,simprocAttr,ti9,ti257,cf,Tryz.results177]
    refine met8_invO (met82 (by kernel_rfl) (by kernel_rfl) (by kernel_rfl) (by kernel_rfl)) hk2 ?_
    rintro r A' ⟨rfl,hA⟩
    subst hA
    simp only [zW,zX,zD,builtinA,isLeaf,const1,ustrA,simprocAttr,ti9,ti257,cf,Tryz.results177]
  · refine acalls_enter (cf:=cf 17 [0,1,4]) foll Tryz.func177 Tryz.ntmps177 (by simp [cf]) ?_
    simp only [Tryz.f177,EnterK_some,zW,zX,zD,builtinA,isLeaf,const1,ustrA,simprocAttr,ti9,ti257,cf,Tryz.results177]
    refine wpO_invoke _ _ _ _ _ _ _ _ _ _ _ _ _ _ _ _ ?_
    simp only [zW,zX,zD,builtinA,isLeaf,const1,ustrA,simprocAttr,ti9,ti257,cf,Tryz.results177]
    refine met8_invO (met82 (by kernel_rfl) (by kernel_rfl) (by kernel_rfl) (by kernel_rfl)) hd1 ?_
    rintro r A' ⟨rfl,hA⟩
    subst hA
    simp only [zW,zX,zD,builtinA,isLeaf,const1,ustrA,simprocAttr,ti9,ti257,cf,Tryz.results177]
    refine wpO_invoke _ _ _ _ _ _ _ _ _ _ _ _ _ _ _ _ ?_
    simp only [zW,zX,zD,builtinA,isLeaf,const1,ustrA,simprocAttr,ti9,ti257,cf,Tryz.results177]
    refine met8_invO (met82 (by kernel_rfl) (by kernel_rfl) (by kernel_rfl) (by kernel_rfl)) hd2 ?_
    rintro r A' ⟨rfl,hA⟩
    subst hA
    simp only [zW,zX,zD,builtinA,isLeaf,const1,ustrA,simprocAttr,ti9,ti257,cf,Tryz.results177,decide_eq_false h1]
set_option maxRecDepth 100000 in
theorem impl_EqualFunc8 (xs ys : List VE8) (hx : xs.length ≤ 1000) (hy : ys.length ≤ 1000) (A : List Box) : ACalls Tryz.prog 176 [.slice (rs8 xs),.slice (rs8 ys),.func (.func 177) [] []] A (fun r A'=>r = .bool (eq8 xs ys) ∧ A' = A):=by
  by_cases h3 : xs.length = ys.length
  · have d3 : decide ((xs.length : Int) = (ys.length : Int)) = true:=decide_eq_true (by omega)
    refine acalls_enter (cf:=cf 32 [0,1,2,6,7,8,9,14,15,16,17,18,30]) foll Tryz.func176 Tryz.ntmps176 (by simp [cf]) ?_
    simp only [Tryz.f176,EnterK_some,zW,zX,zD,builtinA,isLeaf,const1,ustrA,simprocAttr,ti3,ti120,ti210,cf,Tryz.results176]
    simp only [zW,zX,zD,builtinA,isLeaf,const1,ustrA,simprocAttr,ti3,ti120,ti210,cf,Tryz.results176,rs8_length,d3]
    refine aloop_intro [1,2,15,16,17] (fun e A'=>∃ i,i ≤ xs.length ∧ (∀ k,k < i → same8 (xs.getD k e80) (ys.getD k e80) = true) ∧ e = [(1,.slice (rs8 ys)),(2,.func (.func 177) [] []),(15,.slice (rs8 xs)),(16,.int .i64 xs.length),(17,.int .i64 (i : Nat))] ∧ A' = A) (fun e _=>xs.length - (intOf (Abs.look 17 e)).toNat) ?_ ?_
    · simp only [zW,zX,zD,builtinA,isLeaf,const1,ustrA,simprocAttr,ti3,ti120,ti210,cf,Tryz.results176]
      exact ⟨0,by omega,fun k hk=>by omega,rfl⟩
    · rintro e A' ⟨i,hi,hq,rfl,rfl⟩
      by_cases hlt : i < xs.length
      · have d1 : decide ((i : Int) < (xs.length : Int)) = true:=by simp; omega
        have pi : 0 ≤ (i : Int) ∧ (i : Int) < (xs.length : Int):=by omega
        have qi : 0 ≤ (i : Int) ∧ (i : Int) < (ys.length : Int):=by omega
        have hg1:=rs8_getD hlt
        have hg2:=rs8_getD (show i < ys.length by omega)
        have hi1 : IntKind.i64.wrap ((i : Int) + 1) = ((i + 1 : Nat) : Int):=by rw [wrap64 (by omega) (by omega)]; rfl
        have hno:=@eq8_no xs ys i hlt
        have hnext : same8 (xs.getD i e80) (ys.getD i e80) = true → ∀ k,k < i + 1 → same8 (xs.getD k e80) (ys.getD k e80) = true:=fun h k hk=>by
          rcases Nat.lt_succ_iff_lt_or_eq.mp hk with h' | rfl
          · exact hq k h'
          · exact h
        have hcs:=fun A=>chg_same (xs.getD i e80) (ys.getD i e80) A
        rw [r8] at hg1
        rw [r8] at hg2
        generalize same8 (xs.getD i e80) (ys.getD i e80) = sb at *
        generalize xs.getD i e80 = x at *
        generalize ys.getD i e80 = y at *
        simp only [zW,zX,zD,builtinA,isLeaf,const1,ustrA,simprocAttr,ti3,ti120,ti210,cf,Tryz.results176,rs8_length,d1,hg1]
        refine ⟨pi,?_⟩
        simp only [zW,zX,zD,builtinA,isLeaf,const1,ustrA,simprocAttr,ti3,ti120,ti210,cf,Tryz.results176,rs8_length,hg2]
        refine ⟨qi,?_⟩
        refine wpO_callv _ _ _ _ _ _ _ _ _ _ _ _ _ _ _ ?_
        simp only [zW,zX,zD,builtinA,isLeaf,const1,ustrA,simprocAttr,ti3,ti120,ti210,cf,Tryz.results176]
        refine ⟨by kernel_rfl,?_⟩
        refine callK_intro (by simp only [zW,zX,zD,builtinA,isLeaf,const1,ustrA,simprocAttr,Option.map_some,List.nil_append,List.append_nil]; rfl) (hcs _) ?_ rfl
        rintro r A' ⟨rfl,rfl⟩
        cases sb with
        | false =>
          simp only [zW,zX,zD,builtinA,isLeaf,const1,ustrA,simprocAttr,ti3,ti120,ti210,cf,Tryz.results176]
          rw [hno rfl]
        | true =>
          simp only [zW,zX,zD,builtinA,isLeaf,const1,ustrA,simprocAttr,ti3,ti120,ti210,cf,Tryz.results176,hi1,LoopK_eq]
          refine ⟨⟨i + 1,by omega,hnext rfl,rfl⟩,?_⟩
          simp only [intOf]; omega
      · have d1 : decide ((i : Int) < (xs.length : Int)) = false:=by simp; omega
        have e : i = xs.length:=by omega
        subst e
        simp only [zW,zX,zD,builtinA,isLeaf,const1,ustrA,simprocAttr,ti3,ti120,ti210,cf,Tryz.results176,rs8_length,d1]
        rw [eq8_yes h3 hq]
  · have d3 : decide ((xs.length : Int) = (ys.length : Int)) = false:=decide_eq_false (by omega)
    have he : eq8 xs ys = false:=by unfold eq8; rw [decide_eq_false h3]; rfl
    refine acalls_enter (cf:=cf 32 [0,1,2,6,7,8,9,14,15,16,17,18,30]) foll Tryz.func176 Tryz.ntmps176 (by simp [cf]) ?_
    simp only [Tryz.f176,EnterK_some,zW,zX,zD,builtinA,isLeaf,const1,ustrA,simprocAttr,ti3,ti120,ti210,cf,Tryz.results176]
    simp only [zW,zX,zD,builtinA,isLeaf,const1,ustrA,simprocAttr,ti3,ti120,ti210,cf,Tryz.results176,rs8_length,d3]
    rw [he]
theorem leaf_frz {c : AV} (h : isLeaf c = true) (A : List Box) : frz1 c A = some (c,A):=by
  cases c with
  | func fn f l =>
    cases f with
    | cons a f=>simp [isLeaf] at h
    | nil =>
      cases l with
      | cons a l=>simp [isLeaf] at h
      | nil=>rfl
  | _=>first | rfl | (simp [isLeaf] at h)
set_option maxRecDepth 100000 in
set_option maxHeartbeats 4000000 in
theorem impl_readChange (p q : PrI) (hp : PrBig p) (hq : PrBig q) (A : List Box) : ACalls Tryz.prog 85 [.agg (gE p),.agg (gE q)] A (fun r A'=>((∃ x y,Pr8 p x ∧ Pr8 q y ∧ r = .tuple [.agg [.slice (rs8 x.decls),ifE x.main,.slice (rs8 y.decls),ifE y.main],.bool (eq8 x.decls y.decls)]) ∨ ((progB p = false ∨ progB q = false) ∧ ∃ c1 c2 c3 c4,isLeaf c2 = true ∧ isLeaf c4 = true ∧ r = .tuple [.agg [.slice c1,c2,.slice c3,c4],.bool false])) ∧ A' = A):=by
  have hr1:=fun A=>impl_readProgram p hp A
  have hr2:=fun A=>impl_readProgram q hq A
  have xl1:=gE_length p
  have xl2:=gE_length q
  have xt1:=gE_take p
  have xt2:=gE_take q
  have xf1:=fun A=>frzL_gE p A
  have xf2:=fun A=>frzL_gE q A
  simp only [v8E,ifE] at hr1 hr2 ⊢
  generalize gE p = xm at *
  generalize gE q = ym at *
  refine acalls_enter (cf:=cf 34 [0,1,2,3,4,5,6,7,8,9]) foll Tryz.func85 Tryz.ntmps85 (by simp [cf]) ?_
  simp only [Tryz.f85,EnterK_some,zW,zX,zD,builtinA,isLeaf,const1,ustrA,simprocAttr,ti41,ti120,ti124,ti129,ti210,ca82,ca176,cf,Tryz.results85]
  simp only [zW,zX,zD,builtinA,isLeaf,const1,ustrA,simprocAttr,ti41,ti120,ti124,ti129,ti210,ca82,ca176,cf,Tryz.results85,xl1,xl2,xt1,xt2]
  refine callK_intro (by simp only [zW,zX,zD,builtinA,isLeaf,const1,ustrA,simprocAttr,xf1,Option.map_some] <;> rfl) (hr1 _) ?_ rfl
  rintro r A' ⟨⟨x,hx,rfl⟩ | ⟨hb0,c1,c2,hl,rfl⟩,rfl⟩
  · simp only [zW,zX,zD,builtinA,isLeaf,const1,ustrA,simprocAttr,ti41,ti120,ti124,ti129,ti210,ca82,ca176,cf,Tryz.results85,xl1,xl2,xt1,xt2]
    refine callK_intro (by simp only [zW,zX,zD,builtinA,isLeaf,const1,ustrA,simprocAttr,xf2,Option.map_some] <;> rfl) (hr2 _) ?_ rfl
    rintro r A' ⟨⟨y,hy,rfl⟩ | ⟨hb,c3,c4,hl2,rfl⟩,rfl⟩
    · have hef:=fun A=>impl_EqualFunc8 x.decls y.decls (by have:=hx.decls.1; have:=hx.len; omega) (by have:=hy.decls.1; have:=hy.len; omega) A
      simp only [zW,zX,zD,builtinA,isLeaf,const1,ustrA,simprocAttr,ti41,ti120,ti124,ti129,ti210,ca82,ca176,cf,Tryz.results85]
      refine .inr (drawE_intro [(false,0,0),(false,0,0),(false,0,0),(false,0,0),(false,0,0),(false,0,0),(false,0,0),(false,0,0),(false,0,0),(false,0,0),(false,0,0),(false,0,0),(false,0,0),(false,0,1),(true,0,0),(false,1,1)] [A ++ [.cells xm,.cells ym,.cells [.nils,.nili,.nils,.nili],.cells [.slice (rs8 x.decls),.iface (vtE x.main) (vxE x.main)],.cells [.slice (rs8 y.decls),.iface (vtE y.main) (vxE y.main)]],A ++ [.cells xm,.cells ym,.cells [.slice (rs8 x.decls),.iface (vtE x.main) (vxE x.main),.slice (rs8 y.decls),.iface (vtE y.main) (vxE y.main)],.cells [.slice (rs8 x.decls),.iface (vtE x.main) (vxE x.main)],.cells [.slice (rs8 y.decls),.iface (vtE y.main) (vxE y.main)]]] 1 rfl (by kernel_rfl) (by kernel_rfl) (by kernel_rfl) (by kernel_rfl) (by kernel_rfl) (by kernel_rfl) ?_)
      simp only [zW,zX,zD,builtinA,isLeaf,const1,ustrA,simprocAttr,ti41,ti120,ti124,ti129,ti210,ca82,ca176,cf,Tryz.results85]
      refine callEN_intro (fun A=>by simp only [zW,zX,zD,builtinA,isLeaf,const1,ustrA,simprocAttr,Option.map_some] <;> rfl) (fun A=>hef A) ?_ rfl rfl
      simp only [zW,zX,zD,builtinA,isLeaf,const1,ustrA,simprocAttr,ti41,ti120,ti124,ti129,ti210,ca82,ca176,cf,Tryz.results85]
      exact .inl ⟨x,y,hx,hy,rfl⟩
    · have z4:=leaf_frz hl2
      have k4 : ∀ n,closed1 n c4 = true:=fun n=>leaf_closed1 hl2
      simp only [zW,zX,zD,builtinA,isLeaf,const1,ustrA,simprocAttr,ti41,ti120,ti124,ti129,ti210,ca82,ca176,cf,Tryz.results85]
      refine .inr (drawE_intro [(false,0,0),(false,0,0),(false,0,0),(false,0,0),(false,0,0),(false,0,0),(false,0,0),(false,0,0),(false,0,0),(false,0,0),(false,0,0),(false,0,0),(false,0,0),(false,0,1),(true,0,0),(false,1,1)] [A ++ [.cells xm,.cells ym,.cells [.nils,.nili,.nils,.nili],.cells [.slice (rs8 x.decls),.iface (vtE x.main) (vxE x.main)],.cells [.slice c3,c4]],A ++ [.cells xm,.cells ym,.cells [.slice (rs8 x.decls),.iface (vtE x.main) (vxE x.main),.slice c3,c4],.cells [.slice (rs8 x.decls),.iface (vtE x.main) (vxE x.main)],.cells [.slice c3,c4]]] 1 rfl (by kernel_rfl) (by kernel_rfl) (by kernel_rfl) (by kernel_rfl) (by kernel_rfl) (by kernel_rfl) ?_)
      simp only [zW,zX,zD,builtinA,isLeaf,const1,ustrA,simprocAttr,ti41,ti120,ti124,ti129,ti210,ca82,ca176,cf,Tryz.results85,z4,k4]
      repeat' (first | refine And.intro (skz_of rfl) ?_ | refine And.intro (skz_same rfl rfl) ?_)
      exact .inr ⟨.inr hb,_,_,_,_,by cases x.main <;> rfl,hl2,rfl⟩
  · simp only [zW,zX,zD,builtinA,isLeaf,const1,ustrA,simprocAttr,ti41,ti120,ti124,ti129,ti210,ca82,ca176,cf,Tryz.results85,xl1,xl2,xt1,xt2]
    refine callK_intro (by simp only [zW,zX,zD,builtinA,isLeaf,const1,ustrA,simprocAttr,xf2,Option.map_some] <;> rfl) (hr2 _) ?_ rfl
    rintro r A' ⟨⟨y,hy,rfl⟩ | ⟨hb,c3,c4,hl2,rfl⟩,rfl⟩
    · have z2:=leaf_frz hl
      have k2 : ∀ n,closed1 n c2 = true:=fun n=>leaf_closed1 hl
      simp only [zW,zX,zD,builtinA,isLeaf,const1,ustrA,simprocAttr,ti41,ti120,ti124,ti129,ti210,ca82,ca176,cf,Tryz.results85]
      refine .inr (drawE_intro [(false,0,0),(false,0,0),(false,0,0),(false,0,0),(false,0,0),(false,0,0),(false,0,0),(false,0,0),(false,0,0),(false,0,0),(false,0,0),(false,0,0),(false,0,0),(false,0,1),(true,0,0),(false,1,1)] [A ++ [.cells xm,.cells ym,.cells [.nils,.nili,.nils,.nili],.cells [.slice c1,c2],.cells [.slice (rs8 y.decls),.iface (vtE y.main) (vxE y.main)]],A ++ [.cells xm,.cells ym,.cells [.slice c1,c2,.slice (rs8 y.decls),.iface (vtE y.main) (vxE y.main)],.cells [.slice c1,c2],.cells [.slice (rs8 y.decls),.iface (vtE y.main) (vxE y.main)]]] 1 rfl (by kernel_rfl) (by kernel_rfl) (by kernel_rfl) (by kernel_rfl) (by kernel_rfl) (by kernel_rfl) ?_)
      simp only [zW,zX,zD,builtinA,isLeaf,const1,ustrA,simprocAttr,ti41,ti120,ti124,ti129,ti210,ca82,ca176,cf,Tryz.results85,z2,k2]
      repeat' (first | refine And.intro (skz_of rfl) ?_ | refine And.intro (skz_same rfl rfl) ?_)
      exact .inr ⟨.inl hb0,_,_,_,_,hl,by cases y.main <;> rfl,rfl⟩
    · have z2:=leaf_frz hl
      have k2 : ∀ n,closed1 n c2 = true:=fun n=>leaf_closed1 hl
      have z4:=leaf_frz hl2
      have k4 : ∀ n,closed1 n c4 = true:=fun n=>leaf_closed1 hl2
      simp only [zW,zX,zD,builtinA,isLeaf,const1,ustrA,simprocAttr,ti41,ti120,ti124,ti129,ti210,ca82,ca176,cf,Tryz.results85]
      refine .inr (drawE_intro [(false,0,0),(false,0,0),(false,0,0),(false,0,0),(false,0,0),(false,0,0),(false,0,0),(false,0,0),(false,0,0),(false,0,0),(false,0,0),(false,0,0),(false,0,0),(false,0,1),(true,0,0),(false,1,1)] [A ++ [.cells xm,.cells ym,.cells [.nils,.nili,.nils,.nili],.cells [.slice c1,c2],.cells [.slice c3,c4]],A ++ [.cells xm,.cells ym,.cells [.slice c1,c2,.slice c3,c4],.cells [.slice c1,c2],.cells [.slice c3,c4]]] 1 rfl (by kernel_rfl) (by kernel_rfl) (by kernel_rfl) (by kernel_rfl) (by kernel_rfl) (by kernel_rfl) ?_)
      simp only [zW,zX,zD,builtinA,isLeaf,const1,ustrA,simprocAttr,ti41,ti120,ti124,ti129,ti210,ca82,ca176,cf,Tryz.results85,z2,z4,k2,k4]
      repeat' (first | refine And.intro (skz_of rfl) ?_ | refine And.intro (skz_same rfl rfl) ?_)
      exact .inr ⟨.inl hb0,_,_,_,_,hl,hl2,rfl⟩
theorem kd_same {d e : DeI} {x y : VE8} (hx : Of8 d x) (hy : Of8 e y) : decide (kd8 x = kd8 y) = (decide (isU d = isU e) && decide (par0 d = par0 e)):=by
  have par : ∀ {d : DeI} {x : VE8},Of8 d x → (isU d = true ∧ (kd8 x = 0 ↔ par0 d = true) ∧ (kd8 x = 1 ↔ par0 d = false) ∧ kd8 x ≠ 2) ∨ (isU d = false ∧ par0 d = true ∧ kd8 x = 2):=fun {d x} h=>by
    cases x with
    | un u =>
      have hl:=h.2.params.1
      by_cases hp : 0 < u.params.length
      · have e : par0 d = false:=decide_eq_false (by omega)
        have k : kd8 (.un u) = 1:=if_pos hp
        exact .inl ⟨h.1,by rw [k,e]; decide,by rw [k,e]; decide,by rw [k]; decide⟩
      · have e : par0 d = true:=decide_eq_true (by omega)
        have k : kd8 (.un u) = 0:=if_neg hp
        exact .inl ⟨h.1,by rw [k,e]; decide,by rw [k,e]; decide,by rw [k]; decide⟩
    | mk m f l =>
      obtain ⟨h1,_,_,_,h2⟩:=h
      refine .inr ⟨h1,?_,rfl⟩
      rw [declB,if_neg (by rw [h1]; simp)] at h2
      simp only [Bool.and_eq_true] at h2
      have:=h2.1.1.1.1.2
      simp only [noU,Bool.and_eq_true,decide_eq_true_eq] at this
      simp [par0,this.1.1.2]
  have hb : ∀ b : Bool,b = true ∨ b = false:=fun b=>by cases b <;> simp
  have k01 : ∀ {d : DeI} {x : VE8},(kd8 x = 0 ↔ par0 d = true) → (kd8 x = 1 ↔ par0 d = false) → (kd8 x = 0 ∧ par0 d = true) ∨ (kd8 x = 1 ∧ par0 d = false):=fun {d x} h1 h2=>by
    rcases hb (par0 d) with h | h
    · exact .inl ⟨h1.2 h,h⟩
    · exact .inr ⟨h2.2 h,h⟩
  rcases par hx with ⟨a1,a2,a3,a4⟩ | ⟨a1,a2,a3⟩ <;> rcases par hy with ⟨b1,b2,b3,b4⟩ | ⟨b1,b2,b3⟩
  · rcases k01 a2 a3 with ⟨a,a'⟩ | ⟨a,a'⟩ <;> rcases k01 b2 b3 with ⟨b,b'⟩ | ⟨b,b'⟩ <;> rw [a1,b1,a,b,a',b'] <;> rfl
  · rw [a1,b1,b3,decide_eq_false a4]; rfl
  · rw [a1,b1,a3,decide_eq_false (fun h=>b4 h.symm)]; rfl
  · rw [a1,b1,a2,b2,a3,b3]; rfl
theorem sn_eq {p q : PrI} {x y : V8} (hx : Pr8 p x) (hy : Pr8 q y) : eq8 x.decls y.decls = snB p q:=by
  have h1:=pr8_true hx
  have h2:=pr8_true hy
  unfold eq8 snB
  rw [h1,h2,hx.decls.1,hy.decls.1]
  by_cases h3 : p.decls.length = q.decls.length
  · rw [decide_eq_true h3]
    simp only [Bool.true_and,Bool.and_true]
    rw [Bool.eq_iff_iff,List.all_eq_true,List.all_eq_true]
    have key : ∀ i,i ∈ List.range p.decls.length → same8 (x.decls.getD i e80) (y.decls.getD i e80) = l10B (p.decls.getD i de0) (q.decls.getD i de0):=fun i hi=>by
      have hi:=List.mem_range.1 hi
      have o1:=hx.decls.2 i hi
      have o2:=hy.decls.2 i (by omega)
      rw [same8,l10B,of8_nm o1,of8_nm o2,kd_same o1 o2,Bool.and_assoc]
    exact ⟨fun h i hi=>by rw [← key i hi]; exact h i hi,fun h i hi=>by rw [key i hi]; exact h i hi⟩
  · rw [decide_eq_false h3]; rfl
theorem sn_bad {p q : PrI} (h : progB p = false ∨ progB q = false) : snB p q = false:=by
  unfold snB
  rcases h with h | h <;> rw [h] <;> simp
set_option maxRecDepth 100000 in
theorem impl_SameNames (p q : PrI) (hp : PrBig p) (hq : PrBig q) (A : List Box) : ACalls Tryz.prog 21 [.agg (gE p),.agg (gE q)] A (fun r A'=>r = .bool (snB p q) ∧ A' = A):=by
  have hr:=fun A=>impl_readChange p q hp hq A
  have xl1:=gE_length p
  have xl2:=gE_length q
  have xt1:=gE_take p
  have xt2:=gE_take q
  have xf1:=fun A=>frzL_gE p A
  have xf2:=fun A=>frzL_gE q A
  simp only [ifE] at hr
  generalize gE p = xm at *
  generalize gE q = ym at *
  refine acalls_enter (cf:=cf 14 [0,1,2,3,4,6]) foll Tryz.func21 Tryz.ntmps21 (by simp [cf]) ?_
  simp only [Tryz.f21,EnterK_some,zW,zX,zD,builtinA,isLeaf,const1,ustrA,simprocAttr,ti41,ti129,ca85,cf,Tryz.results21]
  simp only [zW,zX,zD,builtinA,isLeaf,const1,ustrA,simprocAttr,ti41,ti129,ca85,cf,Tryz.results21,xl1,xl2,xt1,xt2]
  refine callK_intro (by simp only [zW,zX,zD,builtinA,isLeaf,const1,ustrA,simprocAttr,xf1,xf2,Option.map_some] <;> rfl) (hr _) ?_ rfl
  rintro r A' ⟨⟨x,y,hx,hy,rfl⟩ | ⟨hb,c1,c2,c3,c4,hl,hl2,rfl⟩,rfl⟩
  · rw [sn_eq hx hy]
    simp only [zW,zX,zD,builtinA,isLeaf,const1,ustrA,simprocAttr,ti41,ti129,ca85,cf,Tryz.results21]
  · rw [sn_bad hb]
    simp only [zW,zX,zD,builtinA,isLeaf,const1,ustrA,simprocAttr,ti41,ti129,ca85,cf,Tryz.results21]
end Go.Proofs.YtnjdbgiincliaaaGreat
