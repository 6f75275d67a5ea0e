/- PrVal, Frk. -/
import Derived.Test.YtnjdbgiincliaaaGreatK11
import Derived.Test.YtnjdbgiincliaaaGreatAbsW3
/- The model's ProgramValid. -/
set_option linter.unusedVariables false
set_option linter.unusedSimpArgs false
namespace Go.Proofs.YtnjdbgiincliaaaGreat
open Go.Abs
def isU (d : DeI) : Bool:=(decide (d.made = []) && decide (d.functor = [])) && decide (d.args.length = 0)
def argsB (l : Nms) : Bool:=l.all moduleB
noncomputable def declB (d : DeI) : Bool:=if isU d = true then unitB d.un else ((((argsB d.args && noU d.un) && moduleB d.made) && moduleB d.functor) && decide (1 ≤ d.args.length)) && decide (d.args.length ≤ 3)
def nmDe (d : DeI) : List UInt8:=if isU d = true then d.un.name else d.made
def nmDs (l : List DeI) : List (List UInt8):=l.map nmDe
noncomputable def progB (p : PrI) : Bool:=(((List.range p.decls.length).all fun i=>declB (p.decls.getD i de0) && !decide (nmDe (p.decls.getD i de0) ∈ nmDs (p.decls.take i))) && decide (p.decls.length ≤ 8)) && validX p.main
theorem progB_no {p : PrI} {i : Nat} (hi : i < p.decls.length) (h : (declB (p.decls.getD i de0) && !decide (nmDe (p.decls.getD i de0) ∈ nmDs (p.decls.take i))) = false) : progB p = false:=by
  unfold progB
  have : ((List.range p.decls.length).all fun i=>declB (p.decls.getD i de0) && !decide (nmDe (p.decls.getD i de0) ∈ nmDs (p.decls.take i))) = false:=by
    rw [List.all_eq_false]
    exact ⟨i,List.mem_range.mpr hi,by rw [h]; decide⟩
  rw [this]; simp
theorem progB_yes {p : PrI} (h : ∀ i,i < p.decls.length → (declB (p.decls.getD i de0) && !decide (nmDe (p.decls.getD i de0) ∈ nmDs (p.decls.take i))) = true) : progB p = (decide (p.decls.length ≤ 8) && validX p.main):=by
  unfold progB
  have : ((List.range p.decls.length).all fun i=>declB (p.decls.getD i de0) && !decide (nmDe (p.decls.getD i de0) ∈ nmDs (p.decls.take i))) = true:=by
    rw [List.all_eq_true]
    exact fun k hk=>h k (List.mem_range.mp hk)
  rw [this,Bool.true_and]
def DeBig (d : DeI) : Prop:=UnBig d.un ∧ d.args.length ≤ 1048576
def PrBig (p : PrI) : Prop:=(p.decls.length ≤ 1048576 ∧ ∀ d ∈ p.decls,DeBig d) ∧ p.main.Ok ∧ szX p.main ≤ 1048576
set_option maxRecDepth 100000 in
theorem spec_l8IsUnit (d : DeI) (A : List Box) : ACalls Tryz.prog 170 [.agg (dE d)] A (fun r A'=>r = .bool (isU d) ∧ A' = A):=by
  rw [dE,isU]
  refine acalls_enter (cf:=cf 17 [0,1,2]) foll Tryz.func170 Tryz.ntmps170 (by simp [cf]) ?_
  simp only [Tryz.f170,EnterK_some,zW,zX,zD,builtinA,isLeaf,const1,ustrA,simprocAttr,ti3,ti9,ti48,ti90,cf,Tryz.results170]
  by_cases h1 : d.made = []
  · by_cases h2 : d.functor = []
    · by_cases h3 : d.args.length = 0
      · have h3' : decide ((d.args.length : Int) = 0) = true:=by simp [h3]
        simp only [zW,zX,zD,builtinA,isLeaf,const1,ustrA,simprocAttr,ti3,ti9,ti48,ti90,cf,Tryz.results170,decide_eq_true h1,decide_eq_true h2,decide_eq_true h3,aEs_length,h3']
      · have h3' : decide ((d.args.length : Int) = 0) = false:=decide_eq_false (by omega)
        simp only [zW,zX,zD,builtinA,isLeaf,const1,ustrA,simprocAttr,ti3,ti9,ti48,ti90,cf,Tryz.results170,decide_eq_true h1,decide_eq_true h2,decide_eq_false h3,aEs_length,h3']
    · simp only [zW,zX,zD,builtinA,isLeaf,const1,ustrA,simprocAttr,ti3,ti9,ti48,ti90,cf,Tryz.results170,decide_eq_true h1,decide_eq_false h2]
  · simp only [zW,zX,zD,builtinA,isLeaf,const1,ustrA,simprocAttr,ti3,ti9,ti48,ti90,cf,Tryz.results170,decide_eq_false h1]
set_option maxRecDepth 100000 in
theorem spec_l8NoUnit (u : UnI) (A : List Box) : ACalls Tryz.prog 171 [.agg (uE u)] A (fun r A'=>r = .bool (noU u) ∧ A' = A):=by
  rw [uE,noU]
  refine acalls_enter (cf:=cf 24 [0,1,2]) foll Tryz.func171 Tryz.ntmps171 (by simp [cf]) ?_
  simp only [Tryz.f171,EnterK_some,zW,zX,zD,builtinA,isLeaf,const1,ustrA,simprocAttr,ti3,ti9,ti50,ti69,ti77,ti78,ti80,ti194,ti304,cf,Tryz.results171]
  by_cases h1 : u.name = []
  · by_cases h2 : u.params.length = 0
    · have h2' : decide ((u.params.length : Int) = 0) = true:=by simp [h2]
      by_cases h3 : u.body.length = 0
      · have h3' : decide ((u.body.length : Int) = 0) = true:=by simp [h3]
        by_cases h4 : u.face.length = 0
        · have h4' : decide ((u.face.length : Int) = 0) = true:=by simp [h4]
          simp only [zW,zX,zD,builtinA,isLeaf,const1,ustrA,simprocAttr,ti3,ti9,ti50,ti69,ti77,ti78,ti80,ti194,ti304,cf,Tryz.results171,decide_eq_true h1,decide_eq_true h2,decide_eq_true h3,decide_eq_true h4,h2',h3',h4',pEs_length,iEs_length,sEs_length]
        · have h4' : decide ((u.face.length : Int) = 0) = false:=decide_eq_false (by omega)
          simp only [zW,zX,zD,builtinA,isLeaf,const1,ustrA,simprocAttr,ti3,ti9,ti50,ti69,ti77,ti78,ti80,ti194,ti304,cf,Tryz.results171,decide_eq_true h1,decide_eq_true h2,decide_eq_true h3,decide_eq_false h4,h2',h3',h4',pEs_length,iEs_length,sEs_length]
      · have h3' : decide ((u.body.length : Int) = 0) = false:=decide_eq_false (by omega)
        simp only [zW,zX,zD,builtinA,isLeaf,const1,ustrA,simprocAttr,ti3,ti9,ti50,ti69,ti77,ti78,ti80,ti194,ti304,cf,Tryz.results171,decide_eq_true h1,decide_eq_true h2,decide_eq_false h3,h2',h3',pEs_length,iEs_length,sEs_length]
    · have h2' : decide ((u.params.length : Int) = 0) = false:=decide_eq_false (by omega)
      simp only [zW,zX,zD,builtinA,isLeaf,const1,ustrA,simprocAttr,ti3,ti9,ti50,ti69,ti77,ti78,ti80,ti194,ti304,cf,Tryz.results171,decide_eq_true h1,decide_eq_false h2,h2',pEs_length]
  · simp only [zW,zX,zD,builtinA,isLeaf,const1,ustrA,simprocAttr,ti3,ti9,ti50,ti69,ti77,ti78,ti80,ti194,ti304,cf,Tryz.results171,decide_eq_false h1]
set_option maxRecDepth 100000 in
theorem spec_l8Name (d : DeI) (A : List Box) : ACalls Tryz.prog 79 [.agg (dE d)] A (fun r A'=>r = .str (nmDe d) ∧ A' = A):=by
  have hi:=fun A=>spec_l8IsUnit d A
  rw [dE] at hi ⊢
  refine acalls_enter (cf:=cf 10 [0,1,2,4]) foll Tryz.func79 Tryz.ntmps79 (by simp [cf]) ?_
  simp only [Tryz.f79,EnterK_some,zW,zX,zD,builtinA,isLeaf,const1,ustrA,simprocAttr,ti9,ti80,ti90,ca170,cf,Tryz.results79]
  refine callK_intro (by simp only [zW,zX,zD,builtinA,isLeaf,const1,ustrA,simprocAttr,Option.map_some]; rfl) (hi _) ?_ rfl; rintro v A' ⟨rfl,rfl⟩
  rw [nmDe]
  cases hu : isU d with
  | true=>simp only [zW,zX,zD,builtinA,isLeaf,const1,ustrA,simprocAttr,ti9,ti80,ti90,ca170,cf,Tryz.results79]
  | false=>simp only [zW,zX,zD,builtinA,isLeaf,const1,ustrA,simprocAttr,ti9,ti80,ti90,ca170,cf,Tryz.results79]
theorem argsB_no {l : Nms} {i : Nat} (hi : i < l.length) (h : moduleB (l.getD i []) = false) : argsB l = false:=by
  rw [argsB,List.all_eq_false]
  exact ⟨_,ns_mem hi,by rw [h]; decide⟩
theorem argsB_yes {l : Nms} (h : ∀ k,k < l.length → moduleB (l.getD k []) = true) : argsB l = true:=by
  rw [argsB,List.all_eq_true]
  intro x hx
  obtain ⟨k,hk,rfl⟩:=List.mem_iff_getElem.1 hx
  have:=h k hk
  rwa [show l.getD k [] = l[k] by simp [List.getD,hk]] at this
set_option maxRecDepth 100000 in
set_option maxHeartbeats 2000000 in
theorem spec_l8Decl (d : DeI) (hd : DeBig d) (A : List Box) : ACalls Tryz.prog 78 [.agg (dE d)] A (fun r A'=>r = .bool (declB d) ∧ A' = A):=by
  have hi:=fun A=>spec_l8IsUnit d A
  have hu:=fun A=>spec_UnitValid d.un hd.1 A
  have hn:=fun A=>spec_l8NoUnit d.un A
  have hm:=fun A=>spec_ModuleName d.made A
  have hf:=fun A=>spec_ModuleName d.functor A
  have hl:=hd.2
  rw [uE] at hu hn
  rw [dE] at hi ⊢
  refine acalls_enter (cf:=cf 48 [0,1,2,3,5,13,22]) foll Tryz.func78 Tryz.ntmps78 (by simp [cf]) ?_
  simp only [Tryz.f78,EnterK_some,zW,zX,zD,builtinA,isLeaf,const1,ustrA,simprocAttr,ti3,ti9,ti48,ti80,ti90,ca104,ca124,ca170,ca171,cf,Tryz.results78]
  refine callK_intro (by simp only [zW,zX,zD,builtinA,isLeaf,const1,ustrA,simprocAttr,Option.map_some]; rfl) (hi _) ?_ rfl; rintro v A' ⟨rfl,rfl⟩
  rw [declB]
  cases hiu : isU d with
  | true =>
    simp only [zW,zX,zD,builtinA,isLeaf,const1,ustrA,simprocAttr,ti3,ti9,ti48,ti80,ti90,ca104,ca124,ca170,ca171,cf,Tryz.results78]
    refine callK_intro (by simp only [zW,zX,zD,builtinA,isLeaf,const1,ustrA,simprocAttr,Option.map_some]; rfl) (hu _) ?_ rfl; rintro v A' ⟨rfl,rfl⟩
    simp only [zW,zX,zD,builtinA,isLeaf,const1,ustrA,simprocAttr,ti3,ti9,ti48,ti80,ti90,ca104,ca124,ca170,ca171,cf,Tryz.results78]
  | false =>
    simp only [zW,zX,zD,builtinA,isLeaf,const1,ustrA,simprocAttr,ti3,ti9,ti48,ti80,ti90,ca104,ca124,ca170,ca171,cf,Tryz.results78]
    refine aloop_intro [1,3] (fun e A'=>∃ i,i ≤ d.args.length ∧ (∀ k,k < i → moduleB (d.args.getD k []) = true) ∧ e = [(1,.ptr A.length 0),(3,.int .i64 (i : Nat))] ∧ A' = A ++ [.cells [.str d.un.name,.slice (pEs d.un.params),.slice (iEs d.un.body),.slice (sEs d.un.face),.str d.made,.str d.functor,.slice (aEs d.args)]]) (fun e _=>d.args.length - (intOf (Abs.look 3 e)).toNat) ?_ ?_
    · simp only [zW,zX,zD,builtinA,isLeaf,const1,ustrA,simprocAttr,ti3,ti9,ti48,ti80,ti90,ca104,ca124,ca170,ca171,cf,Tryz.results78]
      exact ⟨0,by omega,fun k hk=>by omega,rfl⟩
    · rintro e A' ⟨i,hi,hq,rfl,rfl⟩
      by_cases hlt : i < d.args.length
      · have d1 : decide ((i : Int) < (d.args.length : Int)) = true:=by simp; omega
        have pi : 0 ≤ (i : Int) ∧ (i : Int) < (d.args.length : Int):=by omega
        have hg:=aEs_getD hlt
        have hi1 : IntKind.i64.wrap ((i : Int) + 1) = ((i + 1 : Nat) : Int):=by rw [wrap64 (by omega) (by omega)]; rfl
        have hno:=@argsB_no d.args i hlt
        have hnext : moduleB (d.args.getD i []) = true → ∀ k,k < i + 1 → moduleB (d.args.getD k []) = true:=fun h k hk=>by
          rcases Nat.lt_succ_iff_lt_or_eq.mp hk with h' | rfl
          · exact hq k h'
          · exact h
        generalize d.args.getD i [] = x at *
        simp only [zW,zX,zD,builtinA,isLeaf,const1,ustrA,simprocAttr,ti3,ti9,ti48,ti80,ti90,ca104,ca124,ca170,ca171,cf,Tryz.results78,aEs_length,d1,hg]
        refine ⟨pi,?_⟩
        refine callK_intro (by simp only [zW,zX,zD,builtinA,isLeaf,const1,ustrA,simprocAttr,Option.map_some]; rfl) (spec_ModuleName x _) ?_ rfl; rintro v A' ⟨rfl,rfl⟩
        cases hmx : moduleB x with
        | false =>
          simp only [zW,zX,zD,builtinA,isLeaf,const1,ustrA,simprocAttr,ti3,ti9,ti48,ti80,ti90,ca104,ca124,ca170,ca171,cf,Tryz.results78]
          rw [hno hmx]; simp
        | true =>
          simp only [zW,zX,zD,builtinA,isLeaf,const1,ustrA,simprocAttr,ti3,ti9,ti48,ti80,ti90,ca104,ca124,ca170,ca171,cf,Tryz.results78,hi1,LoopK_eq]
          refine ⟨⟨i + 1,by omega,hnext hmx,rfl⟩,?_⟩
          simp only [intOf]; omega
      · have d1 : decide ((i : Int) < (d.args.length : Int)) = false:=by simp; omega
        have e : i = d.args.length:=by omega
        subst e
        have ha:=argsB_yes hq
        have d3 : decide ((d.args.length : Int) ≥ 1) = decide (1 ≤ d.args.length):=by rw [Bool.eq_iff_iff]; simp; omega
        have d3' : decide ((1 : Int) ≤ (d.args.length : Int)) = decide (1 ≤ d.args.length):=by rw [Bool.eq_iff_iff]; simp; omega
        have d4 : decide ((d.args.length : Int) ≤ 3) = decide (d.args.length ≤ 3):=by rw [Bool.eq_iff_iff]; simp; omega
        rw [ha,Bool.true_and]
        simp only [zW,zX,zD,builtinA,isLeaf,const1,ustrA,simprocAttr,ti3,ti9,ti48,ti80,ti90,ca104,ca124,ca170,ca171,cf,Tryz.results78,aEs_length,d1]
        refine callK_intro (by simp only [zW,zX,zD,builtinA,isLeaf,const1,ustrA,simprocAttr,Option.map_some]; rfl) (hn _) ?_ rfl; rintro v A' ⟨rfl,rfl⟩
        cases h1 : noU d.un with
        | false=>simp only [zW,zX,zD,builtinA,isLeaf,const1,ustrA,simprocAttr,ti3,ti9,ti48,ti80,ti90,ca104,ca124,ca170,ca171,cf,Tryz.results78]
        | true =>
          simp only [zW,zX,zD,builtinA,isLeaf,const1,ustrA,simprocAttr,ti3,ti9,ti48,ti80,ti90,ca104,ca124,ca170,ca171,cf,Tryz.results78]
          refine callK_intro (by simp only [zW,zX,zD,builtinA,isLeaf,const1,ustrA,simprocAttr,Option.map_some]; rfl) (hm _) ?_ rfl; rintro v A' ⟨rfl,rfl⟩
          cases h2 : moduleB d.made with
          | false=>simp only [zW,zX,zD,builtinA,isLeaf,const1,ustrA,simprocAttr,ti3,ti9,ti48,ti80,ti90,ca104,ca124,ca170,ca171,cf,Tryz.results78]
          | true =>
            simp only [zW,zX,zD,builtinA,isLeaf,const1,ustrA,simprocAttr,ti3,ti9,ti48,ti80,ti90,ca104,ca124,ca170,ca171,cf,Tryz.results78]
            refine callK_intro (by simp only [zW,zX,zD,builtinA,isLeaf,const1,ustrA,simprocAttr,Option.map_some]; rfl) (hf _) ?_ rfl; rintro v A' ⟨rfl,rfl⟩
            cases h3 : moduleB d.functor with
            | false=>simp only [zW,zX,zD,builtinA,isLeaf,const1,ustrA,simprocAttr,ti3,ti9,ti48,ti80,ti90,ca104,ca124,ca170,ca171,cf,Tryz.results78]
            | true =>
              by_cases h4 : 1 ≤ d.args.length
              · rw [decide_eq_true h4] at d3 d3' ⊢
                simp only [zW,zX,zD,builtinA,isLeaf,const1,ustrA,simprocAttr,ti3,ti9,ti48,ti80,ti90,ca104,ca124,ca170,ca171,cf,Tryz.results78,aEs_length,d3,d3',d4]
              · rw [decide_eq_false h4] at d3 d3' ⊢
                simp only [zW,zX,zD,builtinA,isLeaf,const1,ustrA,simprocAttr,ti3,ti9,ti48,ti80,ti90,ca104,ca124,ca170,ca171,cf,Tryz.results78,aEs_length,d3,d3',d4]
theorem nmDs_mem {l : List DeI} {i : Nat} (hi : i ≤ l.length) (q : List UInt8) : q ∈ nmDs (l.take i) ↔ ∃ k,k < i ∧ nmDe (l.getD k de0) = q:=by
  simp only [nmDs,List.mem_map]
  constructor
  · rintro ⟨d,hd,rfl⟩
    obtain ⟨k,hk,rfl⟩:=List.mem_iff_getElem.1 hd
    have hk' : k < i:=by simp at hk; omega
    refine ⟨k,hk',?_⟩
    simp [List.getD,show k < l.length by omega]
  · rintro ⟨k,hk,rfl⟩
    refine ⟨l.getD k de0,?_,rfl⟩
    rw [List.mem_iff_getElem]
    exact ⟨k,by simp; omega,by simp [List.getD,show k < l.length by omega]⟩
set_option maxRecDepth 100000 in
set_option maxHeartbeats 4000000 in
theorem spec_ProgramValid (p : PrI) (hp : PrBig p) (A : List Box) : ACalls Tryz.prog 16 [.agg (gE p)] A (fun r A'=>r = .bool (progB p) ∧ A' = A):=by
  obtain ⟨⟨hd1,hd2⟩,hm1,hm2⟩:=hp
  have hxv:=fun A=>spec_ExprValid p.main hm1 hm2 A
  have hxl:=encX_length p.main
  have hxt:=encX_take p.main
  have hxf:=fun A=>frzL_encX p.main A
  have hxe:=encX_leaf p.main
  rw [gE]
  generalize encX p.main = xm at *
  have hx0 : 0 < xm.length + 1:=by omega
  have hfin : (∀ i,i < p.decls.length → (declB (p.decls.getD i de0) && !decide (nmDe (p.decls.getD i de0) ∈ nmDs (p.decls.take i))) = true) → progB p = (decide (p.decls.length ≤ 8) && validX p.main):=progB_yes
  refine acalls_enter (cf:=cf 50 [0,1,2,3,4,13,22,25,40]) foll Tryz.func16 Tryz.ntmps16 (by simp [cf]) ?_
  simp only [Tryz.f16,EnterK_some,zW,zX,zD,builtinA,isLeaf,const1,ustrA,simprocAttr,ti3,ti9,ti33,ti39,ti41,ti90,ca78,ca79,ca80,cf,Tryz.results16]
  refine aloop_intro [1,3] (fun e A'=>∃ i,i ≤ p.decls.length ∧ i ≤ 9 ∧ (∀ k,k < i → (declB (p.decls.getD k de0) && !decide (nmDe (p.decls.getD k de0) ∈ nmDs (p.decls.take k))) = true) ∧ e = [(1,.ptr A.length 0),(3,.int .i64 (i : Nat))] ∧ A' = A ++ [.cells (.slice (dEs p.decls) :: xm)]) (fun e _=>p.decls.length - (intOf (Abs.look 3 e)).toNat) ?_ ?_
  · simp only [zW,zX,zD,builtinA,isLeaf,const1,ustrA,simprocAttr,ti3,ti9,ti33,ti39,ti41,ti90,ca78,ca79,ca80,cf,Tryz.results16]
    exact ⟨0,by omega,by omega,fun k hk=>by omega,rfl⟩
  · rintro e A' ⟨i,hi,hi9,hq,rfl,rfl⟩
    by_cases hlt : i < p.decls.length
    · have d1 : decide ((i : Int) < (p.decls.length : Int)) = true:=by simp; omega
      have pi : 0 ≤ (i : Int) ∧ (i : Int) < (p.decls.length : Int):=by omega
      by_cases h8 : i ≤ 8
      · have d2 : decide ((i : Int) ≤ 8) = true:=by simp; omega
        have hno:=@progB_no p i hlt
        have hmem:=hd2 _ (de_mem hlt)
        have hg:=dEs_getD hlt
        have hi1 : IntKind.i64.wrap ((i : Int) + 1) = ((i + 1 : Nat) : Int):=by rw [wrap64 (by omega) (by omega)]; rfl
        have hnext : (declB (p.decls.getD i de0) && !decide (nmDe (p.decls.getD i de0) ∈ nmDs (p.decls.take i))) = true → ∀ k,k < i + 1 → (declB (p.decls.getD k de0) && !decide (nmDe (p.decls.getD k de0) ∈ nmDs (p.decls.take k))) = true:=fun h k hk=>by
          rcases Nat.lt_succ_iff_lt_or_eq.mp hk with h' | rfl
          · exact hq k h'
          · exact h
        have hmd:=nmDs_mem hi (nmDe (p.decls.getD i de0))
        have hdc:=fun A=>spec_l8Decl (p.decls.getD i de0) hmem A
        have hnm:=fun A=>spec_l8Name (p.decls.getD i de0) A
        have hdl:=dE_length (p.decls.getD i de0)
        have hdt:=dE_take (p.decls.getD i de0)
        have hdf:=fun A=>frzL_dE (p.decls.getD i de0) A
        generalize hxe : dE (p.decls.getD i de0) = xe at *
        generalize declB (p.decls.getD i de0) = db at *
        generalize nmDe (p.decls.getD i de0) = nm at *
        simp only [zW,zX,zD,builtinA,isLeaf,const1,ustrA,simprocAttr,ti3,ti9,ti33,ti39,ti41,ti90,ca78,ca79,ca80,cf,Tryz.results16,hx0,dEs_length,d1,d2,hg,hdl,hdt]
        refine ⟨pi,?_⟩
        refine callK_intro (by simp only [zW,zX,zD,builtinA,isLeaf,const1,ustrA,simprocAttr,hdf,Option.map_some]; rfl) (hdc _) ?_ rfl; rintro v A' ⟨rfl,rfl⟩
        cases db with
        | false =>
          simp only [zW,zX,zD,builtinA,isLeaf,const1,ustrA,simprocAttr,ti3,ti9,ti33,ti39,ti41,ti90,ca78,ca79,ca80,cf,Tryz.results16]
          rw [hno rfl]
        | true =>
          simp only [zW,zX,zD,builtinA,isLeaf,const1,ustrA,simprocAttr,ti3,ti9,ti33,ti39,ti41,ti90,ca78,ca79,ca80,cf,Tryz.results16]
          refine aloop_intro [1,3,4] (fun e A'=>∃ j,j ≤ i ∧ (∀ k,k < j → ¬ nmDe (p.decls.getD k de0) = nm) ∧ e = [(1,.ptr A.length 0),(3,.int .i64 (i : Nat)),(4,.int .i64 (j : Nat))] ∧ A' = A ++ [.cells (.slice (dEs p.decls) :: xm)]) (fun e _=>i - (intOf (Abs.look 4 e)).toNat) ?_ ?_
          · simp only [zW,zX,zD,builtinA,isLeaf,const1,ustrA,simprocAttr,ti3,ti9,ti33,ti39,ti41,ti90,ca78,ca79,ca80,cf,Tryz.results16]
            exact ⟨0,by omega,fun k hk=>by omega,rfl⟩
          · rintro e A' ⟨j,hj,hqj,rfl,rfl⟩
            by_cases hjl : j < i
            · have e1 : decide ((j : Int) < (i : Int)) = true:=by simp; omega
              have pj : 0 ≤ (j : Int) ∧ (j : Int) < (p.decls.length : Int):=by omega
              have hgj:=dEs_getD (show j < p.decls.length by omega)
              have hj1 : IntKind.i64.wrap ((j : Int) + 1) = ((j + 1 : Nat) : Int):=by rw [wrap64 (by omega) (by omega)]; rfl
              have hnj:=fun A=>spec_l8Name (p.decls.getD j de0) A
              have hjl2:=dE_length (p.decls.getD j de0)
              have hjt:=dE_take (p.decls.getD j de0)
              have hjf:=fun A=>frzL_dE (p.decls.getD j de0) A
              generalize dE (p.decls.getD j de0) = ye at *
              simp only [zW,zX,zD,builtinA,isLeaf,const1,ustrA,simprocAttr,ti3,ti9,ti33,ti39,ti41,ti90,ca78,ca79,ca80,cf,Tryz.results16,hx0,e1,dEs_length,hg,hgj,hjl2,hjt]
              refine .inl ⟨by kernel_rfl,by kernel_rfl,pj,?_⟩
              refine callD_intro (by simp only [zW,zX,zD,builtinA,isLeaf,const1,ustrA,simprocAttr,hjf,Option.map_some] <;> rfl) (hnj _) ?_ rfl
              simp only [zW,zX,zD,builtinA,isLeaf,const1,ustrA,simprocAttr,ti3,ti9,ti33,ti39,ti41,ti90,ca78,ca79,ca80,cf,Tryz.results16,hx0,dEs_length,hg,hgj,hdl,hdt]
              refine ⟨pi,?_⟩
              refine callD_intro (by simp only [zW,zX,zD,builtinA,isLeaf,const1,ustrA,simprocAttr,hdf,Option.map_some] <;> rfl) (hnm _) ?_ rfl
              by_cases hn : nmDe (p.decls.getD j de0) = nm
              · simp only [zW,zX,zD,builtinA,isLeaf,const1,ustrA,simprocAttr,ti3,ti9,ti33,ti39,ti41,ti90,ca78,ca79,ca80,cf,Tryz.results16,decide_eq_true hn]
                rw [hno (by rw [decide_eq_true (hmd.2 ⟨j,hjl,hn⟩)]; rfl)]
              · simp only [zW,zX,zD,builtinA,isLeaf,const1,ustrA,simprocAttr,ti3,ti9,ti33,ti39,ti41,ti90,ca78,ca79,ca80,cf,Tryz.results16,decide_eq_false hn,hj1,LoopK_eq]
                refine ⟨⟨j + 1,by omega,fun k hk=>?_,rfl⟩,?_⟩
                · rcases Nat.lt_succ_iff_lt_or_eq.mp hk with h' | rfl
                  · exact hqj k h'
                  · exact hn
                · simp only [intOf]; omega
            · have e1 : decide ((j : Int) < (i : Int)) = false:=by simp; omega
              have hji : j = i:=by omega
              subst hji
              have hnm2 : ¬ nm ∈ nmDs (p.decls.take j):=fun h=>by
                obtain ⟨k,hk,he⟩:=hmd.1 h
                exact hqj k hk he
              simp only [zW,zX,zD,builtinA,isLeaf,const1,ustrA,simprocAttr,ti3,ti9,ti33,ti39,ti41,ti90,ca78,ca79,ca80,cf,Tryz.results16,e1,hi1,LoopK_eq]
              refine ⟨⟨j + 1,by omega,by omega,hnext (by rw [decide_eq_false hnm2]; rfl),rfl⟩,?_⟩
              simp only [intOf]; omega
      · have d2 : decide ((i : Int) ≤ 8) = false:=by simp; omega
        have hb : progB p = false:=by unfold progB; rw [decide_eq_false (by omega : ¬ p.decls.length ≤ 8)]; simp
        have d3 : decide ((p.decls.length : Int) ≤ 8) = false:=by simp; omega
        simp only [zW,zX,zD,builtinA,isLeaf,const1,ustrA,simprocAttr,ti3,ti9,ti33,ti39,ti41,ti90,ca78,ca79,ca80,cf,Tryz.results16,hx0,dEs_length,d1,d2,d3]
        rw [hb]
    · have d1 : decide ((i : Int) < (p.decls.length : Int)) = false:=by simp; omega
      have e : i = p.decls.length:=by omega
      subst e
      rw [hfin hq]
      by_cases h8 : p.decls.length ≤ 8
      · have d3 : decide ((p.decls.length : Int) ≤ 8) = true:=by simp; omega
        rw [decide_eq_true h8,Bool.true_and]
        simp only [zW,zX,zD,builtinA,isLeaf,const1,ustrA,simprocAttr,ti3,ti9,ti33,ti39,ti41,ti90,ca78,ca79,ca80,cf,Tryz.results16,hx0,dEs_length,d1,d3]
        simp only [zW,zX,zD,builtinA,isLeaf,const1,ustrA,simprocAttr,ti3,ti9,ti33,ti39,ti41,ti90,ca78,ca79,ca80,cf,Tryz.results16,hx0,hxl,hxt]
        refine callK_intro (by simp only [zW,zX,zD,builtinA,isLeaf,const1,ustrA,simprocAttr,hxf,Option.map_some]; rfl) (hxv _) ?_ rfl; rintro v A' ⟨rfl,rfl⟩
        simp only [zW,zX,zD,builtinA,isLeaf,const1,ustrA,simprocAttr,ti3,ti9,ti33,ti39,ti41,ti90,ca78,ca79,ca80,cf,Tryz.results16]
      · have d3 : decide ((p.decls.length : Int) ≤ 8) = false:=by simp; omega
        rw [decide_eq_false h8]
        simp only [zW,zX,zD,builtinA,isLeaf,const1,ustrA,simprocAttr,ti3,ti9,ti33,ti39,ti41,ti90,ca78,ca79,ca80,cf,Tryz.results16,hx0,dEs_length,d1,d3]
end Go.Proofs.YtnjdbgiincliaaaGreat
/- Calls that change one box at most. -/
set_option linter.unusedVariables false
set_option linter.unusedSimpArgs false
namespace Go.Proofs.YtnjdbgiincliaaaGreat
open Go.Abs
def FrK (i : Nat) (A A' : List Box) : Prop:=A.length ≤ A'.length ∧ ∀ k,k < A.length → k ≠ i → A'.getD k .dead = A.getD k .dead
theorem FrK.trans {i : Nat} {A B C : List Box} (h : FrK i A B) (k : FrK i B C) : FrK i A C :=
  ⟨Nat.le_trans h.1 k.1,fun x hx hi=>by rw [k.2 x (Nat.lt_of_lt_of_le hx h.1) hi,h.2 x hx hi]⟩
theorem FrK.app (i : Nat) (A B : List Box) : FrK i A (A ++ B):=⟨by simp,fun k hk _=>Abs.getD_append_left hk⟩
theorem FrK.refl (i : Nat) (A : List Box) : FrK i A A:=⟨Nat.le_refl _,fun _ _ _=>rfl⟩
theorem take_of_getD {A1 C : List Box} {n : Nat} (hn : n ≤ A1.length) (hc : C.length = n) (h : ∀ k,k < n → A1.getD k .dead = C.getD k .dead) : A1.take n = C:=by
  refine List.ext_getElem (by simp; omega) fun k h1 h2=>?_
  have h3 : k < A1.length:=by omega
  have:=h k (by omega)
  rw [List.getElem_take]
  simpa [List.getD,h3,h2] using this
theorem borrowI {P : Program} {f : FuncId} {args args' : List AV} {A : List Box} {x : AV} (hv : Views A args args') (hx : ifree x = true) (h : ∀ A,ACalls P f args' A (fun v A'=>v = x ∧ A' = A)) : ACalls P f args A (fun v A'=>v = x ∧ A' = A) :=
  ACalls.borrow hv ((h _).mono fun v A' ⟨h1,h2⟩=>⟨[],by rw [h2,List.append_nil],by rw [h1]; exact hx,by simp,h1,by simp⟩)
end Go.Proofs.YtnjdbgiincliaaaGreat
