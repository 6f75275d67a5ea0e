/- ExSpec, ExWalk, OwnTy, OwnMark. -/
import Derived.Test.YtnjdbgiincliaaaGreatX03
import Derived.Test.YtnjdbgiincliaaaGreatAbsW3
/- The model's ExprValid. -/
set_option linter.unusedVariables false
set_option linter.unusedSimpArgs false
namespace Go.Proofs.YtnjdbgiincliaaaGreat
open Go.Abs
set_option maxRecDepth 100000 in
theorem spec_l4Kids (k : Int) (A : List Box) : ACalls Tryz.prog 242 [.int .i64 k] A (fun v A'=>v = .int .i64 (kidsX k) ∧ A' = A):=by
  refine acalls_enter (cf:=cf 15 [0,2,3,4,8,10,13]) foll Tryz.func242 Tryz.ntmps242 (by simp [cf]) ?_
  simp only [Tryz.f242,EnterK_some,zW,zX,zD,builtinA,isLeaf,const1,ustrA,simprocAttr,ti3,cf,Tryz.results242]
  repeat' first
    | (refine guardT_intro (fun h=>?_) (fun h=>?_) <;> (try simp only [decide_eq_true_eq,decide_eq_false_iff_not,Bool.not_eq_eq_eq_not,Bool.not_true,Bool.not_false] at h) <;> simp only [zW,zX,zD,builtinA,isLeaf,const1,ustrA,simprocAttr,ti3,cf,Tryz.results242,h])
    | (refine guardF_intro (fun h=>?_) (fun h=>?_) <;> (try simp only [decide_eq_true_eq,decide_eq_false_iff_not,Bool.not_eq_eq_eq_not,Bool.not_true,Bool.not_false] at h) <;> simp only [zW,zX,zD,builtinA,isLeaf,const1,ustrA,simprocAttr,ti3,cf,Tryz.results242,h])
    | (refine condK_intro (fun h=>?_) (fun h=>?_) <;> (try simp only [decide_eq_true_eq,decide_eq_false_iff_not,Bool.not_eq_eq_eq_not,Bool.not_true,Bool.not_false] at h) <;> simp only [zW,zX,zD,builtinA,isLeaf,const1,ustrA,simprocAttr,ti3,cf,Tryz.results242,h])
    | (refine guardDT_intro (fun h=>?_) (fun h=>?_) <;> (try simp only [decide_eq_true_eq,decide_eq_false_iff_not,Bool.not_eq_eq_eq_not,Bool.not_true,Bool.not_false] at h) <;> simp only [zW,zX,zD,builtinA,isLeaf,const1,ustrA,simprocAttr,ti3,cf,Tryz.results242,h])
    | (refine guardDF_intro (fun h=>?_) (fun h=>?_) <;> (try simp only [decide_eq_true_eq,decide_eq_false_iff_not,Bool.not_eq_eq_eq_not,Bool.not_true,Bool.not_false] at h) <;> simp only [zW,zX,zD,builtinA,isLeaf,const1,ustrA,simprocAttr,ti3,cf,Tryz.results242,h])
    | refine And.intro ?_ ?_
  all_goals simp [kidsX, *]
set_option maxRecDepth 100000 in
set_option maxHeartbeats 4000000 in
theorem spec_l4Own (k i : Int) (m n : List UInt8) (t : Ty) (ht : t.Ok) (hc : sz t ≤ 1048576) (ks : List (List AV)) (A : List Box) :
    ACalls Tryz.prog 243 [.agg [.int .i64 k,.int .i64 i,.str m,.str n,.int .i64 t.kind,.str t.mod,.str t.name,.slice (encs t.kids),.slice ks]] A (fun v A'=>v = .bool (ownX k i m n t) ∧ A' = A):=by
  have hz:=fun A=>spec_l2Zero t A
  have hv:=fun A=>spec_TypeValid t ht hc A
  rw [encT4] at hz hv
  by_cases k3 : k = 3
  · by_cases h1 : i = 0
    · by_cases h2 : t = ty0
      · cases h3 : localB n with
        | false =>
          refine acalls_enter (cf:=cf 87 [0,1,2,5,36,38,39,54,69]) foll Tryz.func243 Tryz.ntmps243 (by simp [cf]) ?_
          simp only [Tryz.f243,EnterK_some,zW,zX,zD,builtinA,isLeaf,const1,ustrA,simprocAttr,ti3,ti9,ti36,ti39,ca104,ca121,ca245,ca247,cf,Tryz.results243]
          simp only [zW,zX,zD,builtinA,isLeaf,const1,ustrA,simprocAttr,ti3,ti9,ti36,ti39,ca104,ca121,ca245,ca247,cf,Tryz.results243,decide_eq_true k3,decide_eq_true h1]
          refine callK_intro (by simp only [zW,zX,zD,builtinA,isLeaf,const1,ustrA,simprocAttr,Option.map_some]; rfl) (hz _) ?_ rfl; rintro v A' ⟨rfl,rfl⟩
          simp only [zW,zX,zD,builtinA,isLeaf,const1,ustrA,simprocAttr,ti3,ti9,ti36,ti39,ca104,ca121,ca245,ca247,cf,Tryz.results243,decide_eq_true h2]
          refine callK_intro (by simp only [zW,zX,zD,builtinA,isLeaf,const1,ustrA,simprocAttr,Option.map_some]; rfl) (spec_LocalName n _) ?_ rfl; rintro v A' ⟨rfl,rfl⟩
          simp only [zW,zX,zD,builtinA,isLeaf,const1,ustrA,simprocAttr,ti3,ti9,ti36,ti39,ca104,ca121,ca245,ca247,cf,Tryz.results243,h3]
          simp [ownX,k3,h3]
        | true =>
          by_cases h4 : m = []
          · refine acalls_enter (cf:=cf 87 [0,1,2,5,36,38,39,54,69]) foll Tryz.func243 Tryz.ntmps243 (by simp [cf]) ?_
            simp only [Tryz.f243,EnterK_some,zW,zX,zD,builtinA,isLeaf,const1,ustrA,simprocAttr,ti3,ti9,ti36,ti39,ca104,ca121,ca245,ca247,cf,Tryz.results243]
            simp only [zW,zX,zD,builtinA,isLeaf,const1,ustrA,simprocAttr,ti3,ti9,ti36,ti39,ca104,ca121,ca245,ca247,cf,Tryz.results243,decide_eq_true k3,decide_eq_true h1]
            refine callK_intro (by simp only [zW,zX,zD,builtinA,isLeaf,const1,ustrA,simprocAttr,Option.map_some]; rfl) (hz _) ?_ rfl; rintro v A' ⟨rfl,rfl⟩
            simp only [zW,zX,zD,builtinA,isLeaf,const1,ustrA,simprocAttr,ti3,ti9,ti36,ti39,ca104,ca121,ca245,ca247,cf,Tryz.results243,decide_eq_true h2]
            refine callK_intro (by simp only [zW,zX,zD,builtinA,isLeaf,const1,ustrA,simprocAttr,Option.map_some]; rfl) (spec_LocalName n _) ?_ rfl; rintro v A' ⟨rfl,rfl⟩
            simp only [zW,zX,zD,builtinA,isLeaf,const1,ustrA,simprocAttr,ti3,ti9,ti36,ti39,ca104,ca121,ca245,ca247,cf,Tryz.results243,h3,decide_eq_true h4]
            simp [ownX,k3,h1,h2,h3,h4]
          · refine acalls_enter (cf:=cf 87 [0,1,2,5,36,38,39,54,69]) foll Tryz.func243 Tryz.ntmps243 (by simp [cf]) ?_
            simp only [Tryz.f243,EnterK_some,zW,zX,zD,builtinA,isLeaf,const1,ustrA,simprocAttr,ti3,ti9,ti36,ti39,ca104,ca121,ca245,ca247,cf,Tryz.results243]
            simp only [zW,zX,zD,builtinA,isLeaf,const1,ustrA,simprocAttr,ti3,ti9,ti36,ti39,ca104,ca121,ca245,ca247,cf,Tryz.results243,decide_eq_true k3,decide_eq_true h1]
            refine callK_intro (by simp only [zW,zX,zD,builtinA,isLeaf,const1,ustrA,simprocAttr,Option.map_some]; rfl) (hz _) ?_ rfl; rintro v A' ⟨rfl,rfl⟩
            simp only [zW,zX,zD,builtinA,isLeaf,const1,ustrA,simprocAttr,ti3,ti9,ti36,ti39,ca104,ca121,ca245,ca247,cf,Tryz.results243,decide_eq_true h2]
            refine callK_intro (by simp only [zW,zX,zD,builtinA,isLeaf,const1,ustrA,simprocAttr,Option.map_some]; rfl) (spec_LocalName n _) ?_ rfl; rintro v A' ⟨rfl,rfl⟩
            simp only [zW,zX,zD,builtinA,isLeaf,const1,ustrA,simprocAttr,ti3,ti9,ti36,ti39,ca104,ca121,ca245,ca247,cf,Tryz.results243,h3,decide_eq_false h4]
            refine callK_intro (by simp only [zW,zX,zD,builtinA,isLeaf,const1,ustrA,simprocAttr,Option.map_some]; rfl) (spec_ModuleName m _) ?_ rfl; rintro v A' ⟨rfl,rfl⟩
            simp only [zW,zX,zD,builtinA,isLeaf,const1,ustrA,simprocAttr,ti3,ti9,ti36,ti39,ca104,ca121,ca245,ca247,cf,Tryz.results243]
            simp [ownX,k3,h1,h2,h3,h4]
      · refine acalls_enter (cf:=cf 87 [0,1,2,5,36,38,39,54,69]) foll Tryz.func243 Tryz.ntmps243 (by simp [cf]) ?_
        simp only [Tryz.f243,EnterK_some,zW,zX,zD,builtinA,isLeaf,const1,ustrA,simprocAttr,ti3,ti9,ti36,ti39,ca104,ca121,ca245,ca247,cf,Tryz.results243]
        simp only [zW,zX,zD,builtinA,isLeaf,const1,ustrA,simprocAttr,ti3,ti9,ti36,ti39,ca104,ca121,ca245,ca247,cf,Tryz.results243,decide_eq_true k3,decide_eq_true h1]
        refine callK_intro (by simp only [zW,zX,zD,builtinA,isLeaf,const1,ustrA,simprocAttr,Option.map_some]; rfl) (hz _) ?_ rfl; rintro v A' ⟨rfl,rfl⟩
        simp only [zW,zX,zD,builtinA,isLeaf,const1,ustrA,simprocAttr,ti3,ti9,ti36,ti39,ca104,ca121,ca245,ca247,cf,Tryz.results243,decide_eq_false h2]
        simp [ownX,k3,h2]
    · refine acalls_enter (cf:=cf 87 [0,1,2,5,36,38,39,54,69]) foll Tryz.func243 Tryz.ntmps243 (by simp [cf]) ?_
      simp only [Tryz.f243,EnterK_some,zW,zX,zD,builtinA,isLeaf,const1,ustrA,simprocAttr,ti3,ti9,ti36,ti39,ca104,ca121,ca245,ca247,cf,Tryz.results243]
      simp only [zW,zX,zD,builtinA,isLeaf,const1,ustrA,simprocAttr,ti3,ti9,ti36,ti39,ca104,ca121,ca245,ca247,cf,Tryz.results243,decide_eq_true k3,decide_eq_false h1]
      simp [ownX,k3,h1]
  · by_cases h1 : m = []
    · by_cases h2 : n = []
      · by_cases k1 : k = 1
        · by_cases h3 : 0 ≤ i
          · by_cases h4 : i ≤ 12
            · refine acalls_enter (cf:=cf 87 [0,1,2,5,36,38,39,54,69]) foll Tryz.func243 Tryz.ntmps243 (by simp [cf]) ?_
              simp only [Tryz.f243,EnterK_some,zW,zX,zD,builtinA,isLeaf,const1,ustrA,simprocAttr,ti3,ti9,ti36,ti39,ca104,ca121,ca245,ca247,cf,Tryz.results243]
              simp only [zW,zX,zD,builtinA,isLeaf,const1,ustrA,simprocAttr,ti3,ti9,ti36,ti39,ca104,ca121,ca245,ca247,cf,Tryz.results243,decide_eq_false k3,decide_eq_true h1,decide_eq_true h2,decide_eq_true k1,decide_eq_true h3,decide_eq_true h4]
              refine callK_intro (by simp only [zW,zX,zD,builtinA,isLeaf,const1,ustrA,simprocAttr,Option.map_some]; rfl) (hz _) ?_ rfl; rintro v A' ⟨rfl,rfl⟩
              simp only [zW,zX,zD,builtinA,isLeaf,const1,ustrA,simprocAttr,ti3,ti9,ti36,ti39,ca104,ca121,ca245,ca247,cf,Tryz.results243]
              simp [ownX,k3,k1,h1,h2,h3,h4]
            · refine acalls_enter (cf:=cf 87 [0,1,2,5,36,38,39,54,69]) foll Tryz.func243 Tryz.ntmps243 (by simp [cf]) ?_
              simp only [Tryz.f243,EnterK_some,zW,zX,zD,builtinA,isLeaf,const1,ustrA,simprocAttr,ti3,ti9,ti36,ti39,ca104,ca121,ca245,ca247,cf,Tryz.results243]
              simp only [zW,zX,zD,builtinA,isLeaf,const1,ustrA,simprocAttr,ti3,ti9,ti36,ti39,ca104,ca121,ca245,ca247,cf,Tryz.results243,decide_eq_false k3,decide_eq_true h1,decide_eq_true h2,decide_eq_true k1,decide_eq_true h3,decide_eq_false h4]
              simp [ownX,k3,k1,h1,h2,h3,h4]
          · refine acalls_enter (cf:=cf 87 [0,1,2,5,36,38,39,54,69]) foll Tryz.func243 Tryz.ntmps243 (by simp [cf]) ?_
            simp only [Tryz.f243,EnterK_some,zW,zX,zD,builtinA,isLeaf,const1,ustrA,simprocAttr,ti3,ti9,ti36,ti39,ca104,ca121,ca245,ca247,cf,Tryz.results243]
            simp only [zW,zX,zD,builtinA,isLeaf,const1,ustrA,simprocAttr,ti3,ti9,ti36,ti39,ca104,ca121,ca245,ca247,cf,Tryz.results243,decide_eq_false k3,decide_eq_true h1,decide_eq_true h2,decide_eq_true k1,decide_eq_false h3]
            simp [ownX,k3,k1,h1,h2,h3]
        · by_cases k2 : k = 2
          · by_cases h3 : 0 ≤ i
            · by_cases h4 : i ≤ 99
              · refine acalls_enter (cf:=cf 87 [0,1,2,5,36,38,39,54,69]) foll Tryz.func243 Tryz.ntmps243 (by simp [cf]) ?_
                simp only [Tryz.f243,EnterK_some,zW,zX,zD,builtinA,isLeaf,const1,ustrA,simprocAttr,ti3,ti9,ti36,ti39,ca104,ca121,ca245,ca247,cf,Tryz.results243]
                simp only [zW,zX,zD,builtinA,isLeaf,const1,ustrA,simprocAttr,ti3,ti9,ti36,ti39,ca104,ca121,ca245,ca247,cf,Tryz.results243,decide_eq_false k3,decide_eq_true h1,decide_eq_true h2,decide_eq_false k1,decide_eq_true k2,decide_eq_true h3,decide_eq_true h4]
                refine callK_intro (by simp only [zW,zX,zD,builtinA,isLeaf,const1,ustrA,simprocAttr,Option.map_some]; rfl) (hz _) ?_ rfl; rintro v A' ⟨rfl,rfl⟩
                simp only [zW,zX,zD,builtinA,isLeaf,const1,ustrA,simprocAttr,ti3,ti9,ti36,ti39,ca104,ca121,ca245,ca247,cf,Tryz.results243]
                simp [ownX,k3,k1,k2,h1,h2,h3,h4]
              · refine acalls_enter (cf:=cf 87 [0,1,2,5,36,38,39,54,69]) foll Tryz.func243 Tryz.ntmps243 (by simp [cf]) ?_
                simp only [Tryz.f243,EnterK_some,zW,zX,zD,builtinA,isLeaf,const1,ustrA,simprocAttr,ti3,ti9,ti36,ti39,ca104,ca121,ca245,ca247,cf,Tryz.results243]
                simp only [zW,zX,zD,builtinA,isLeaf,const1,ustrA,simprocAttr,ti3,ti9,ti36,ti39,ca104,ca121,ca245,ca247,cf,Tryz.results243,decide_eq_false k3,decide_eq_true h1,decide_eq_true h2,decide_eq_false k1,decide_eq_true k2,decide_eq_true h3,decide_eq_false h4]
                simp [ownX,k3,k1,k2,h1,h2,h3,h4]
            · refine acalls_enter (cf:=cf 87 [0,1,2,5,36,38,39,54,69]) foll Tryz.func243 Tryz.ntmps243 (by simp [cf]) ?_
              simp only [Tryz.f243,EnterK_some,zW,zX,zD,builtinA,isLeaf,const1,ustrA,simprocAttr,ti3,ti9,ti36,ti39,ca104,ca121,ca245,ca247,cf,Tryz.results243]
              simp only [zW,zX,zD,builtinA,isLeaf,const1,ustrA,simprocAttr,ti3,ti9,ti36,ti39,ca104,ca121,ca245,ca247,cf,Tryz.results243,decide_eq_false k3,decide_eq_true h1,decide_eq_true h2,decide_eq_false k1,decide_eq_true k2,decide_eq_false h3]
              simp [ownX,k3,k1,k2,h1,h2,h3]
          · by_cases k4 : k = 4
            · by_cases h3 : i = 0
              · refine acalls_enter (cf:=cf 87 [0,1,2,5,36,38,39,54,69]) foll Tryz.func243 Tryz.ntmps243 (by simp [cf]) ?_
                simp only [Tryz.f243,EnterK_some,zW,zX,zD,builtinA,isLeaf,const1,ustrA,simprocAttr,ti3,ti9,ti36,ti39,ca104,ca121,ca245,ca247,cf,Tryz.results243]
                simp only [zW,zX,zD,builtinA,isLeaf,const1,ustrA,simprocAttr,ti3,ti9,ti36,ti39,ca104,ca121,ca245,ca247,cf,Tryz.results243,decide_eq_false k3,decide_eq_true h1,decide_eq_true h2,decide_eq_false k1,decide_eq_false k2,decide_eq_true k4,decide_eq_true h3]
                refine callK_intro (by simp only [zW,zX,zD,builtinA,isLeaf,const1,ustrA,simprocAttr,Option.map_some]; rfl) (hv _) ?_ rfl; rintro v A' ⟨rfl,rfl⟩
                simp only [zW,zX,zD,builtinA,isLeaf,const1,ustrA,simprocAttr,ti3,ti9,ti36,ti39,ca104,ca121,ca245,ca247,cf,Tryz.results243]
                simp [ownX,k3,k1,k2,k4,h1,h2,h3]
              · refine acalls_enter (cf:=cf 87 [0,1,2,5,36,38,39,54,69]) foll Tryz.func243 Tryz.ntmps243 (by simp [cf]) ?_
                simp only [Tryz.f243,EnterK_some,zW,zX,zD,builtinA,isLeaf,const1,ustrA,simprocAttr,ti3,ti9,ti36,ti39,ca104,ca121,ca245,ca247,cf,Tryz.results243]
                simp only [zW,zX,zD,builtinA,isLeaf,const1,ustrA,simprocAttr,ti3,ti9,ti36,ti39,ca104,ca121,ca245,ca247,cf,Tryz.results243,decide_eq_false k3,decide_eq_true h1,decide_eq_true h2,decide_eq_false k1,decide_eq_false k2,decide_eq_true k4,decide_eq_false h3]
                simp [ownX,k3,k1,k2,k4,h1,h2,h3]
            · by_cases h3 : i = 0
              · refine acalls_enter (cf:=cf 87 [0,1,2,5,36,38,39,54,69]) foll Tryz.func243 Tryz.ntmps243 (by simp [cf]) ?_
                simp only [Tryz.f243,EnterK_some,zW,zX,zD,builtinA,isLeaf,const1,ustrA,simprocAttr,ti3,ti9,ti36,ti39,ca104,ca121,ca245,ca247,cf,Tryz.results243]
                simp only [zW,zX,zD,builtinA,isLeaf,const1,ustrA,simprocAttr,ti3,ti9,ti36,ti39,ca104,ca121,ca245,ca247,cf,Tryz.results243,decide_eq_false k3,decide_eq_true h1,decide_eq_true h2,decide_eq_false k1,decide_eq_false k2,decide_eq_false k4,decide_eq_true h3]
                refine callK_intro (by simp only [zW,zX,zD,builtinA,isLeaf,const1,ustrA,simprocAttr,Option.map_some]; rfl) (hz _) ?_ rfl; rintro v A' ⟨rfl,rfl⟩
                simp only [zW,zX,zD,builtinA,isLeaf,const1,ustrA,simprocAttr,ti3,ti9,ti36,ti39,ca104,ca121,ca245,ca247,cf,Tryz.results243]
                simp [ownX,k3,k1,k2,k4,h1,h2,h3]
              · refine acalls_enter (cf:=cf 87 [0,1,2,5,36,38,39,54,69]) foll Tryz.func243 Tryz.ntmps243 (by simp [cf]) ?_
                simp only [Tryz.f243,EnterK_some,zW,zX,zD,builtinA,isLeaf,const1,ustrA,simprocAttr,ti3,ti9,ti36,ti39,ca104,ca121,ca245,ca247,cf,Tryz.results243]
                simp only [zW,zX,zD,builtinA,isLeaf,const1,ustrA,simprocAttr,ti3,ti9,ti36,ti39,ca104,ca121,ca245,ca247,cf,Tryz.results243,decide_eq_false k3,decide_eq_true h1,decide_eq_true h2,decide_eq_false k1,decide_eq_false k2,decide_eq_false k4,decide_eq_false h3]
                simp [ownX,k3,k1,k2,k4,h1,h2,h3]
      · refine acalls_enter (cf:=cf 87 [0,1,2,5,36,38,39,54,69]) foll Tryz.func243 Tryz.ntmps243 (by simp [cf]) ?_
        simp only [Tryz.f243,EnterK_some,zW,zX,zD,builtinA,isLeaf,const1,ustrA,simprocAttr,ti3,ti9,ti36,ti39,ca104,ca121,ca245,ca247,cf,Tryz.results243]
        simp only [zW,zX,zD,builtinA,isLeaf,const1,ustrA,simprocAttr,ti3,ti9,ti36,ti39,ca104,ca121,ca245,ca247,cf,Tryz.results243,decide_eq_false k3,decide_eq_true h1,decide_eq_false h2]
        simp [ownX,k3,h2]
    · refine acalls_enter (cf:=cf 87 [0,1,2,5,36,38,39,54,69]) foll Tryz.func243 Tryz.ntmps243 (by simp [cf]) ?_
      simp only [Tryz.f243,EnterK_some,zW,zX,zD,builtinA,isLeaf,const1,ustrA,simprocAttr,ti3,ti9,ti36,ti39,ca104,ca121,ca245,ca247,cf,Tryz.results243]
      simp only [zW,zX,zD,builtinA,isLeaf,const1,ustrA,simprocAttr,ti3,ti9,ti36,ti39,ca104,ca121,ca245,ca247,cf,Tryz.results243,decide_eq_false k3,decide_eq_false h1]
      simp [ownX,k3,h1]
set_option maxRecDepth 100000 in
theorem spec_l4Shape (x : Ex) (hx : x.Ok) (hc : szX x ≤ 1048576) : ∀ (d : Int) (A : List Box),-1000 ≤ d → d ≤ 1000 → ACalls Tryz.prog 172 [.agg (encX x),.int .i64 d] A (fun v A'=>v = .bool (shapeX x d) ∧ A' = A):=by
  induction x using Ex.ind with
  | h k i m n t ks ih =>
    intro d A h0 h1
    obtain ⟨hm,hn,ht,hks,hok⟩:=hx
    have hsx : szX (.mk k i m n t ks) = m.length + n.length + sz t + (ks.length + szXs ks):=by rw [szX]
    rw [hsx] at hc
    rw [encX,shapeX]
    refine acalls_enter (cf:=cf 38 [0,1,2,4,5,21,26,37]) foll Tryz.func172 Tryz.ntmps172 (by simp [cf]) ?_
    simp only [Tryz.f172,EnterK_some,zW,zX,zD,builtinA,isLeaf,const1,ustrA,simprocAttr,ti3,ti37,ti39,ca172,ca242,ca243,cf,Tryz.results172]
    refine .inl ⟨by kernel_rfl,by kernel_rfl,?_⟩
    by_cases hd : d < 1
    · simp only [decide_eq_true hd]
      simp only [zW,zX,zD,builtinA,isLeaf,const1,ustrA,simprocAttr,ti3,ti37,ti39,ca172,ca242,ca243,cf,Tryz.results172]
      rw [decide_eq_false (show ¬ (1 : Int) ≤ d by omega)]
      rfl
    · simp only [decide_eq_false hd]
      simp only [zW,zX,zD,builtinA,isLeaf,const1,ustrA,simprocAttr,ti3,ti37,ti39,ca172,ca242,ca243,cf,Tryz.results172]
      refine callD_intro (by simp only [zW,zX,zD,builtinA,isLeaf,const1,ustrA,simprocAttr,Option.map_some] <;> rfl) (spec_l4Kids k _) ?_ rfl
      rw [decide_eq_true (show (1 : Int) ≤ d by omega)]
      by_cases hk : kidsX k = ks.length
      · simp only [zW,zX,zD,builtinA,isLeaf,const1,ustrA,simprocAttr,ti3,ti37,ti39,ca172,ca242,ca243,cf,Tryz.results172,encXs_length,decide_eq_true hk]
        refine callD_intro (by simp only [zW,zX,zD,builtinA,isLeaf,const1,ustrA,simprocAttr,Option.map_some] <;> rfl) (spec_l4Own k i m n t ht (by omega) _ _) ?_ rfl
        by_cases ho : ownX k i m n t = true
        · simp only [zW,zX,zD,builtinA,isLeaf,const1,ustrA,simprocAttr,ti3,ti37,ti39,ca172,ca242,ca243,cf,Tryz.results172,ho]
          have hw : IntKind.i64.wrap (d - 1) = d - 1:=wrap64 (by omega) (by omega)
          refine aloop_intro [1,2,5] (fun e A'=>∃ j,j ≤ ks.length ∧ shapeXs (ks.take j) (d - 1) = true ∧ e = [(1,.int .i64 d),(2,.ptr A.length 0),(5,.int .i64 j)] ∧ A' = A ++ [.cells [.int .i64 k,.int .i64 i,.str m,.str n,.int .i64 t.kind,.str t.mod,.str t.name,.slice (encs t.kids),.slice (encXs ks)]]) (fun e _=>ks.length - (intOf (Abs.look 5 e)).toNat) ?_ ?_
          · simp only [zW,zX,zD,builtinA,isLeaf,const1,ustrA,simprocAttr,ti3,ti37,ti39,ca172,ca242,ca243,cf,Tryz.results172]
            exact ⟨0,by omega,by simp [shapeXs],rfl⟩
          · rintro e A' ⟨j,hi,hsh,rfl,rfl⟩
            simp only [zW,zX,zD,builtinA,isLeaf,const1,ustrA,simprocAttr,ti3,ti37,ti39,ca172,ca242,ca243,cf,Tryz.results172,encXs_length]
            refine condK_intro (fun h2=>?_) (fun h2=>?_)
            · have hi2 : j < ks.length:=by simpa using h2
              have he:=encXs_getD hi2
              have hmm:=ex_mem hi2
              have hi1 : IntKind.i64.wrap ((j : Int) + 1) = ((j + 1 : Nat) : Int):=by rw [wrap64 (by omega) (by omega)]; rfl
              have hst:=shapeXs_take hi2 (d - 1)
              have hszm:=szXs_mem hmm
              simp only [zW,zX,zD,builtinA,isLeaf,const1,ustrA,simprocAttr,ti3,ti37,ti39,ca172,ca242,ca243,cf,Tryz.results172,he,encX_length,encX_take,encXs_length,hw]
              refine ⟨⟨by omega,by omega⟩,?_⟩
              refine callK_intro (by simp only [zW,zX,zD,builtinA,isLeaf,const1,ustrA,simprocAttr,frzL_encX,Option.map_some]; rfl) (ih _ hmm (hok _ hmm) (by omega) _ _ (by omega) (by omega)) ?_ rfl; rintro v A' ⟨rfl,rfl⟩
              cases hs : shapeX (ks.getD j ex0) (d - 1) with
              | true =>
                rw [hsh,hs] at hst
                simp only [zW,zX,zD,builtinA,isLeaf,const1,ustrA,simprocAttr,ti3,ti37,ti39,ca172,ca242,ca243,cf,Tryz.results172,hi1,LoopK_eq]
                refine ⟨⟨j + 1,by omega,hst,rfl⟩,?_⟩
                simp only [intOf]
                omega
              | false =>
                simp only [zW,zX,zD,builtinA,isLeaf,const1,ustrA,simprocAttr,ti3,ti37,ti39,ca172,ca242,ca243,cf,Tryz.results172]
                rw [shapeXs_false hi2 hs]
            · simp only [zW,zX,zD,builtinA,isLeaf,const1,ustrA,simprocAttr,ti3,ti37,ti39,ca172,ca242,ca243,cf,Tryz.results172]
              have : j = ks.length:=by simp at h2; omega
              subst this
              rw [List.take_length] at hsh
              rw [hsh]
        · simp only [zW,zX,zD,builtinA,isLeaf,const1,ustrA,simprocAttr,ti3,ti37,ti39,ca172,ca242,ca243,cf,Tryz.results172,ho]
      · simp only [zW,zX,zD,builtinA,isLeaf,const1,ustrA,simprocAttr,ti3,ti37,ti39,ca172,ca242,ca243,cf,Tryz.results172,encXs_length,decide_eq_false hk]
theorem cntUs_take {l : List Ex} {most : Int} {i : Nat} (h : i < l.length) (hm : cntUs (l.take i) most 1 ≤ most) : cntUs (l.take (i + 1)) most 1 = cntUs (l.take i) most 1 + cntU (l.getD i ex0) (most - cntUs (l.take i) most 1):=by
  have key : ∀ (l : List Ex) (n : Int) (i : Nat),i < l.length → cntUs (l.take i) most n ≤ most → cntUs (l.take (i + 1)) most n = cntUs (l.take i) most n + cntU (l.getD i ex0) (most - cntUs (l.take i) most n):=by
    intro l
    induction l with
    | nil=>intro n i h; simp at h
    | cons x l ih =>
      intro n i h hm
      cases i with
      | zero =>
        simp only [List.take_zero,cntUs,List.take_succ_cons,List.getD_cons_zero] at hm ⊢
        rw [if_pos hm]
      | succ i =>
        simp only [List.take_succ_cons,cntUs,List.getD_cons_succ] at hm ⊢
        by_cases hn : n ≤ most
        · rw [if_pos hn] at hm
          simp only [if_pos hn]
          exact ih _ i (by simpa using h) hm
        · rw [if_neg hn] at hm; omega
  exact key l 1 i h hm
theorem cntUs_over {l : List Ex} {most : Int} {i : Nat} (hm : most < cntUs (l.take i) most 1) (hi : i ≤ l.length) : cntUs l most 1 = cntUs (l.take i) most 1:=by
  have key : ∀ (l : List Ex) (n : Int) (i : Nat),most < cntUs (l.take i) most n → cntUs l most n = cntUs (l.take i) most n:=by
    intro l
    induction l with
    | nil=>intro n i h; simp
    | cons x l ih =>
      intro n i h
      cases i with
      | zero =>
        simp only [List.take_zero,cntUs] at h ⊢
        rw [if_neg (by omega)]
      | succ i =>
        simp only [List.take_succ_cons,cntUs] at h ⊢
        by_cases hn : n ≤ most
        · rw [if_pos hn] at h
          simp only [if_pos hn]
          exact ih _ i h
        · simp only [if_neg hn]
  exact key l 1 i hm
theorem countXs_take_le (l : List Ex) : ∀ i,countXs (l.take i) ≤ countXs l:=by
  induction l with
  | nil=>intro i; simp [countXs]
  | cons t l ih =>
    intro i
    cases i with
    | zero=>simp [countXs]
    | succ i=>simp only [List.take_succ_cons,countXs]; have:=ih i; omega
set_option maxRecDepth 100000 in
theorem spec_l4Count (x : Ex) (hx : x.Ok) (hc : szX x ≤ 1048576) : ∀ (most : Int) (A : List Box),0 ≤ most → most ≤ 1000 → ACalls Tryz.prog 173 [.agg (encX x),.int .i64 most] A (fun v A'=>v = .int .i64 (cntU x most) ∧ A' = A):=by
  induction x using Ex.ind with
  | h k i m n t ks ih =>
    intro most A h0 h1
    obtain ⟨hm,hn,ht,hks,hok⟩:=hx
    have hsx : szX (.mk k i m n t ks) = m.length + n.length + sz t + (ks.length + szXs ks):=by rw [szX]
    rw [hsx] at hc
    have hcx:=countXs_sz ks
    have hlen : ks.length ≤ 1048576:=by omega
    have hU : ∀ j,cntUs (ks.take j) most 1 ≤ 2000000 ∧ 1 ≤ cntUs (ks.take j) most 1:=fun j=>by
      have h2:=cntUs_is (ks.take j) most 1 h0 (by omega)
      have h3:=countXs_take_le ks j
      omega
    rw [encX,cntU]
    refine acalls_enter (cf:=cf 31 [0,1,2,4,5,6,16]) foll Tryz.func173 Tryz.ntmps173 (by simp [cf]) ?_
    simp only [Tryz.f173,EnterK_some,zW,zX,zD,builtinA,isLeaf,const1,ustrA,simprocAttr,ti3,ti37,ti39,ca173,cf,Tryz.results173]
    refine aloop_intro [1,2,5,6] (fun e A'=>∃ j,j ≤ ks.length ∧ e = [(1,.int .i64 most),(2,.ptr A.length 0),(5,.int .i64 (cntUs (ks.take j) most 1)),(6,.int .i64 j)] ∧ A' = A ++ [.cells [.int .i64 k,.int .i64 i,.str m,.str n,.int .i64 t.kind,.str t.mod,.str t.name,.slice (encs t.kids),.slice (encXs ks)]]) (fun e _=>ks.length - (intOf (Abs.look 6 e)).toNat) ?_ ?_
    · simp only [zW,zX,zD,builtinA,isLeaf,const1,ustrA,simprocAttr,ti3,ti37,ti39,ca173,cf,Tryz.results173]
      exact ⟨0,by omega,by simp [cntUs]⟩
    · rintro e A' ⟨j,hi,rfl,rfl⟩
      have hUj:=hU j
      have hUj1:=hU (j + 1)
      simp only [zW,zX,zD,builtinA,isLeaf,const1,ustrA,simprocAttr,ti3,ti37,ti39,ca173,cf,Tryz.results173,encXs_length]
      by_cases h2 : j < ks.length
      · have d1 : decide ((j : Int) < (ks.length : Int)) = true:=by simp; omega
        by_cases h3 : cntUs (ks.take j) most 1 ≤ most
        · have he:=encXs_getD h2
          have hmm:=ex_mem h2
          have hi1 : IntKind.i64.wrap ((j : Int) + 1) = ((j + 1 : Nat) : Int):=by rw [wrap64 (by omega) (by omega)]; rfl
          have hct:=cntUs_take h2 h3
          have hszm:=szXs_mem hmm
          have hw0 : IntKind.i64.wrap (most - cntUs (ks.take j) most 1) = most - cntUs (ks.take j) most 1:=wrap64 (by omega) (by omega)
          have hw : IntKind.i64.wrap (cntUs (ks.take j) most 1 + cntU (ks.getD j ex0) (most - cntUs (ks.take j) most 1)) = cntUs (ks.take (j + 1)) most 1:=by
            rw [← hct]; exact wrap64 (by omega) (by omega)
          simp only [zW,zX,zD,builtinA,isLeaf,const1,ustrA,simprocAttr,ti3,ti37,ti39,ca173,cf,Tryz.results173,d1,decide_eq_true h3,he,encX_length,encX_take,encXs_length,hw0]
          refine ⟨⟨by omega,by omega⟩,?_⟩
          refine callK_intro (by simp only [zW,zX,zD,builtinA,isLeaf,const1,ustrA,simprocAttr,frzL_encX,Option.map_some]; rfl) (ih _ hmm (hok _ hmm) (by omega) _ _ (by omega) (by omega)) ?_ rfl; rintro v A' ⟨rfl,rfl⟩
          simp only [zW,zX,zD,builtinA,isLeaf,const1,ustrA,simprocAttr,ti3,ti37,ti39,ca173,cf,Tryz.results173,hi1,hw,LoopK_eq]
          refine ⟨⟨j + 1,by omega,rfl⟩,?_⟩
          simp only [intOf]
          omega
        · simp only [zW,zX,zD,builtinA,isLeaf,const1,ustrA,simprocAttr,ti3,ti37,ti39,ca173,cf,Tryz.results173,d1,decide_eq_false h3]
          rw [cntUs_over (by omega) hi]
      · have d1 : decide ((j : Int) < (ks.length : Int)) = false:=by simp; omega
        have : j = ks.length:=by omega
        subst this
        simp only [zW,zX,zD,builtinA,isLeaf,const1,ustrA,simprocAttr,ti3,ti37,ti39,ca173,cf,Tryz.results173,d1]
        try rw [List.take_length]
set_option maxRecDepth 100000 in
theorem spec_ExprValid (x : Ex) (hx : x.Ok) (hc : szX x ≤ 1048576) (A : List Box) : ACalls Tryz.prog 80 [.agg (encX x)] A (fun v A'=>v = .bool (validX x) ∧ A' = A):=by
  have hu:=cntU_is x 400 (by omega)
  have hd : decide (cntU x 400 ≤ 400) = decide (countX x ≤ 400):=by
    rw [Bool.eq_iff_iff]; simp only [decide_eq_true_eq]
    constructor
    · intro h
      rcases Nat.lt_or_ge 400 (countX x) with h' | h'
      · have:=hu.2.2.2 (by omega); omega
      · exact h'
    · intro h; rw [hu.2.2.1 (by omega)]; omega
  refine acalls_enter (cf:=cf 10 [0,1,2]) foll Tryz.func80 Tryz.ntmps80 (by simp [cf]) ?_
  simp only [Tryz.f80,EnterK_some,zW,zX,zD,builtinA,isLeaf,const1,ustrA,simprocAttr,ti3,ti39,ca172,ca173,cf,Tryz.results80]
  simp only [encX_take]
  refine ⟨by rw [encX_length]; omega,?_⟩
  refine callK_intro (by simp only [zW,zX,zD,builtinA,isLeaf,const1,ustrA,simprocAttr,frzL_encX,Option.map_some]; rfl) (spec_l4Shape x hx hc _ _ (by omega) (by omega)) ?_ rfl; rintro v A' ⟨rfl,rfl⟩
  rw [validX]
  cases hs : shapeX x 40 with
  | true =>
    simp only [zW,zX,zD,builtinA,isLeaf,const1,ustrA,simprocAttr,ti3,ti39,ca172,ca173,cf,Tryz.results80,encX_take]
    refine ⟨by rw [encX_length]; omega,?_⟩
    refine callK_intro (by simp only [zW,zX,zD,builtinA,isLeaf,const1,ustrA,simprocAttr,frzL_encX,Option.map_some]; rfl) (spec_l4Count x hx hc _ _ (by omega) (by omega)) ?_ rfl; rintro v A' ⟨rfl,rfl⟩
    simp only [zW,zX,zD,builtinA,isLeaf,const1,ustrA,simprocAttr,ti3,ti39,ca172,ca173,cf,Tryz.results80,hd]
    try simp
  | false =>
    simp only [zW,zX,zD,builtinA,isLeaf,const1,ustrA,simprocAttr,ti3,ti39,ca172,ca173,cf,Tryz.results80]
end Go.Proofs.YtnjdbgiincliaaaGreat
/- The program's walk through an expression, and MaxFree. -/
set_option linter.unusedVariables false
set_option linter.unusedSimpArgs false
namespace Go.Proofs.YtnjdbgiincliaaaGreat
open Go.Abs
theorem frzC_vxE (x : VE) (A : List Box) : frzC (vxE x) A = some (vxE x,A):=by cases x <;> rfl
def pickE (f1 f2 f3 f4 f5 f6 f7 : FuncId) : VE → FuncId
  | .var _=>f1
  | .num _=>f2
  | .nm _ _=>f3
  | .fn _ _=>f4
  | .app _ _=>f5
  | .add _ _=>f6
  | .ite _ _ _=>f7
structure MetE (name : String) (gs : VE → FuncId) : Prop where
  find : ∀ v,methA Tryz.prog (vtE v) name = some (gs v)
  call : ∀ v,callable Tryz.prog (gs v) = true
theorem metE7 {name : String} {f1 f2 f3 f4 f5 f6 f7 : FuncId}
    (h1 : methA Tryz.prog 345 name = some f1) (h2 : methA Tryz.prog 439 name = some f2) (h3 : methA Tryz.prog 222 name = some f3) (h4 : methA Tryz.prog 333 name = some f4)
    (h5 : methA Tryz.prog 441 name = some f5) (h6 : methA Tryz.prog 443 name = some f6) (h7 : methA Tryz.prog 445 name = some f7)
    (c1 : callable Tryz.prog f1 = true) (c2 : callable Tryz.prog f2 = true) (c3 : callable Tryz.prog f3 = true) (c4 : callable Tryz.prog f4 = true) (c5 : callable Tryz.prog f5 = true) (c6 : callable Tryz.prog f6 = true) (c7 : callable Tryz.prog f7 = true) : MetE name (pickE f1 f2 f3 f4 f5 f6 f7) :=
  ⟨fun v=>match v with
    | .var _=>h1
    | .num _=>h2
    | .nm _ _=>h3
    | .fn _ _=>h4
    | .app _ _=>h5
    | .add _ _=>h6
    | .ite _ _ _=>h7,
   fun v=>match v with
    | .var _=>c1
    | .num _=>c2
    | .nm _ _=>c3
    | .fn _ _=>c4
    | .app _ _=>c5
    | .add _ _=>c6
    | .ite _ _ _=>c7⟩
theorem methE_invK {own ow : FuncId → Bool} {name : String} {gs : VE → FuncId} {v : VE} {args args' : List AV} {A A1 : List Box} {R : AV → List Box → Prop} {N : Nat} {ops : Array Oper} {Q : Env → List Box → Prop} {rest : List Oper} {d : Option Tmp} {e : Env}
    (hm : MetE name gs) (h : ACalls Tryz.prog (gs v) (vxE v :: args') A1 R) (hf : frzs args A = some (args',A1)) (ho : ∀ g,own g = false)
    (hk : ∀ r A',R r A' → wpO Tryz.prog ow N ops Q rest (putA N d r e) A') : InvK Tryz.prog own name (.iface (vtE v) (vxE v)) args A (ContO Tryz.prog ow N ops Q rest d e):=by
  have h1:=hm.find v
  have h2:=hm.call v
  generalize gs v = g at h h1 h2
  refine ⟨g,h1,h2,callK_intro (args':=vxE v :: args') (A1:=A1) ?_ h hk (ho g)⟩
  simp only [frzs,frzC_vxE,hf]
def OpsM (v : VE) : Prop:=∀ A,ACalls Tryz.prog ((pickE 400 460 369 394 465 470 475) v) [vxE v] A (fun r A'=>r = .slice (rowsV (kidsE v)) ∧ A' = A)
set_option maxRecDepth 100000 in
theorem var_ops (i : Int) : OpsM (.var i):=fun A=>by
  show ACalls Tryz.prog 400 _ _ _
  rw [vxE]
  refine acalls_enter (cf:=cf 3 [0,2]) foll Tryz.func400 Tryz.ntmps400 (by simp [cf]) ?_
  simp only [Tryz.f400,EnterK_some,zW,zX,zD,builtinA,isLeaf,const1,ustrA,simprocAttr,ti345,cf,Tryz.results400]
  try simp [rowsV,kidsE]
set_option maxRecDepth 100000 in
theorem num_ops (i : Int) : OpsM (.num i):=fun A=>by
  show ACalls Tryz.prog 460 _ _ _
  rw [vxE]
  refine acalls_enter (cf:=cf 3 [0,2]) foll Tryz.func460 Tryz.ntmps460 (by simp [cf]) ?_
  simp only [Tryz.f460,EnterK_some,zW,zX,zD,builtinA,isLeaf,const1,ustrA,simprocAttr,ti439,cf,Tryz.results460]
  try simp [rowsV,kidsE]
set_option maxRecDepth 100000 in
theorem nm_ops (m n : List UInt8) : OpsM (.nm m n):=fun A=>by
  show ACalls Tryz.prog 369 _ _ _
  rw [vxE]
  refine acalls_enter (cf:=cf 3 [0,2]) foll Tryz.func369 Tryz.ntmps369 (by simp [cf]) ?_
  simp only [Tryz.f369,EnterK_some,zW,zX,zD,builtinA,isLeaf,const1,ustrA,simprocAttr,ti222,cf,Tryz.results369]
  try simp [rowsV,kidsE]
set_option maxRecDepth 100000 in
theorem fn_ops (t : VT) (b : VE) : OpsM (.fn t b):=fun A=>by
  show ACalls Tryz.prog 394 _ _ _
  rw [vxE]
  refine acalls_enter (cf:=cf 6 [0,1,2]) foll Tryz.func394 Tryz.ntmps394 (by simp [cf]) ?_
  simp only [Tryz.f394,EnterK_some,zW,zX,zD,builtinA,isLeaf,const1,ustrA,simprocAttr,ti122,ti333,ti335,cf,Tryz.results394]
  try simp [rowsV,kidsE,ifE]
set_option maxRecDepth 100000 in
theorem app_ops (a b : VE) : OpsM (.app a b):=fun A=>by
  show ACalls Tryz.prog 465 _ _ _
  rw [vxE]
  refine acalls_enter (cf:=cf 8 [0,1,2]) foll Tryz.func465 Tryz.ntmps465 (by simp [cf]) ?_
  simp only [Tryz.f465,EnterK_some,zW,zX,zD,builtinA,isLeaf,const1,ustrA,simprocAttr,ti122,ti335,ti441,cf,Tryz.results465]
  try simp [rowsV,kidsE,ifE]
set_option maxRecDepth 100000 in
theorem add_ops (a b : VE) : OpsM (.add a b):=fun A=>by
  show ACalls Tryz.prog 470 _ _ _
  rw [vxE]
  refine acalls_enter (cf:=cf 8 [0,1,2]) foll Tryz.func470 Tryz.ntmps470 (by simp [cf]) ?_
  simp only [Tryz.f470,EnterK_some,zW,zX,zD,builtinA,isLeaf,const1,ustrA,simprocAttr,ti122,ti335,ti443,cf,Tryz.results470]
  try simp [rowsV,kidsE,ifE]
set_option maxRecDepth 100000 in
theorem ite_ops (c a b : VE) : OpsM (.ite c a b):=fun A=>by
  show ACalls Tryz.prog 475 _ _ _
  rw [vxE]
  refine acalls_enter (cf:=cf 10 [0,1,2]) foll Tryz.func475 Tryz.ntmps475 (by simp [cf]) ?_
  simp only [Tryz.f475,EnterK_some,zW,zX,zD,builtinA,isLeaf,const1,ustrA,simprocAttr,ti122,ti335,ti445,cf,Tryz.results475]
  try simp [rowsV,kidsE,ifE]
theorem opsM (v : VE) : OpsM v:=by
  cases v with
  | var i=>exact var_ops i
  | num i=>exact num_ops i
  | nm m n=>exact nm_ops m n
  | fn t b=>exact fn_ops t b
  | app a b=>exact app_ops a b
  | add a b=>exact add_ops a b
  | ite c a b=>exact ite_ops c a b
section
variable {σ : Type} (f : VE → Int → σ → σ)
def walkF : VE → Int → σ → σ
  | .var i,d,s=>f (.var i) d s
  | .num i,d,s=>f (.num i) d s
  | .nm m n,d,s=>f (.nm m n) d s
  | .fn t b,d,s=>walkF b (d + 1) (f (.fn t b) d s)
  | .app a b,d,s=>walkF b d (walkF a d (f (.app a b) d s))
  | .add a b,d,s=>walkF b d (walkF a d (f (.add a b) d s))
  | .ite c a b,d,s=>walkF b d (walkF a d (walkF c d (f (.ite c a b) d s)))
def walkI (v : VE) (d : Int) (s : σ) (i : Nat) : σ:=((kidsE v).take i).foldl (fun s k=>walkF f k (inE v d) s) (f v d s)
theorem walkI_zero (v : VE) (d : Int) (s : σ) : walkI f v d s 0 = f v d s:=by simp [walkI]
theorem walkI_all (v : VE) (d : Int) (s : σ) : walkI f v d s (kidsE v).length = walkF f v d s:=by
  cases v <;> simp [walkI,kidsE,walkF,inE,kindE]
theorem walkI_succ {v : VE} {d : Int} {s : σ} {i : Nat} (h : i < (kidsE v).length) : walkI f v d s (i + 1) = walkF f ((kidsE v).getD i ve0) (inE v d) (walkI f v d s i):=by
  have e : (kidsE v).take (i + 1) = (kidsE v).take i ++ [(kidsE v).getD i ve0]:=by rw [List.take_add_one]; simp [List.getD,h]
  unfold walkI
  rw [e,List.foldl_append]
  rfl
end
theorem rowsV_getD {vs : List VE} {i : Nat} (h : i < vs.length) : (rowsV vs).getD i [] = [ifE (vs.getD i ve0)]:=by simp [rowsV,List.getD,h]
theorem assert_fn (v : VE) : ∃ a b,∀ A,assertA 333 [.nili,.nili] (.iface (vtE v) (vxE v)) A = some (True,.tuple [.agg [a,b],.bool (decide (kindE v = 4))],A):=by
  cases v <;> exact ⟨_,_,fun _=>rfl⟩
def VisM {σ : Type} (I : σ → List Box → Prop) (f : VE → Int → σ → σ) (g : FuncId) (cap : List AV) : Prop :=
  ∀ (v : VE) (d : Int) (s : σ) (A : List Box),okE v → 0 ≤ d → d ≤ 1000 → I s A → ACalls Tryz.prog g (ifE v :: .int .i64 d :: cap) A (fun _ A'=>I (f v d s) A')
set_option maxRecDepth 100000 in
set_option maxHeartbeats 1000000 in
theorem impl_walk {σ : Type} (I : σ → List Box → Prop) (hI : ∀ s A L,I s A → I s (A ++ L)) (f : VE → Int → σ → σ) (g : FuncId) (hg : callable Tryz.prog g = true) (cap : List AV) (hv : VisM I f g cap) (v : VE) :
    ∀ (d : Int) (s : σ) (A : List Box),okE v → 0 ≤ d → d + depE v ≤ 1000 → I s A → ACalls Tryz.prog 147 [ifE v,.int .i64 d,.func (.func g) [] cap] A (fun _ A'=>I (walkF f v d s) A'):=by
  induction v using VE.indK with
  | h v ih =>
    intro d s A ho h0 h1 hs
    have hdp:=depE_pos v
    have hvis:=hv v d s A ho h0 (by omega) hs
    have hw : IntKind.i64.wrap (d + 1) = d + 1:=wrap64 (by omega) (by omega)
    have hl:=rowsV_length (kidsE v)
    have hk3:=kidsE_le v
    obtain ⟨ca,cb,has⟩:=assert_fn v
    rw [ifE] at hvis ⊢
    refine acalls_enterK (cf:=cf 34 [0,1,2,7,9,19,23,24,25,26]) foll Tryz.func147 Tryz.ntmps147 (by simp [cf]) ?_
    simp only [Tryz.f147,EnterK_some,zW,zX,zD,builtinA,isLeaf,const1,ustrA,simprocAttr,ti3,ti122,ti333,ti335,ca147,za333,cf,Tryz.results147]
    refine wpO_callv _ _ _ _ _ _ _ _ _ _ _ _ _ _ _ ?_
    simp only [zW,zX,zD,builtinA,isLeaf,const1,ustrA,simprocAttr,ti3,ti122,ti333,ti335,ca147,za333,cf,Tryz.results147,List.nil_append]
    refine ⟨hg,callO_intro (by simpa using hvis) ?_⟩
    rintro r A1 hI1
    have hI2:=hI _ _ [.cells [ca,cb]] hI1
    have go : ∀ (e : Env),True:=fun _=>trivial
    by_cases k4 : kindE v = 4
    · have hin : inE v d = d + 1:=by rw [inE,if_pos k4]
      simp only [zW,zX,zD,builtinA,isLeaf,const1,ustrA,simprocAttr,ti3,ti122,ti333,ti335,ca147,za333,cf,Tryz.results147,wpO_typeAssert,has,decide_eq_true k4,hw]
      refine wpO_invoke _ _ _ _ _ _ _ _ _ _ _ _ _ _ _ _ ?_
      simp only [zW,zX,zD,builtinA,isLeaf,const1,ustrA,simprocAttr,ti3,ti122,ti333,ti335,ca147,za333,cf,Tryz.results147]
      refine methE_invK (metE7 (by kernel_rfl) (by kernel_rfl) (by kernel_rfl) (by kernel_rfl) (by kernel_rfl) (by kernel_rfl) (by kernel_rfl) (by kernel_rfl) (by kernel_rfl) (by kernel_rfl) (by kernel_rfl) (by kernel_rfl) (by kernel_rfl) (by kernel_rfl)) (opsM v _) rfl (fun _=>rfl) ?_
      rintro r A2 ⟨rfl,rfl⟩
      simp only [zW,zX,zD,builtinA,isLeaf,const1,ustrA,simprocAttr,ti3,ti122,ti333,ti335,ca147,za333,cf,Tryz.results147,hl]
      refine aloop_intro [1,2,23,24,25] (fun e A'=>∃ j,j ≤ (kidsE v).length ∧ e = [(1,.int .i64 (inE v d)),(2,.func (.func g) [] cap),(23,.slice (rowsV (kidsE v))),(24,.int .i64 ((kidsE v).length : Nat)),(25,.int .i64 (j : Nat))] ∧ I (walkI f v d s j) A') (fun e _=>(kidsE v).length - (intOf (Abs.look 25 e)).toNat) ?_ ?_
      · exact ⟨0,by omega,by rw [hin]; rfl,by rw [walkI_zero]; exact hI2⟩
      · rintro e A3 ⟨j,hj,rfl,hI3⟩
        by_cases hlt : j < (kidsE v).length
        · have dl : decide ((j : Int) < ((kidsE v).length : Nat)) = true:=decide_eq_true (by omega)
          have hgt:=rowsV_getD hlt
          have hm:=kid_mem hlt
          have hdk:=depE_kid hm
          have hi1 : IntKind.i64.wrap ((j : Int) + 1) = ((j + 1 : Nat) : Int):=by rw [wrap64 (by omega) (by omega)]; rfl
          have hrec:=ih _ hm (inE v d) (walkI f v d s j) A3 (okE_kid ho hm) (by rw [hin]; omega) (by rw [hin]; omega) hI3
          rw [← walkI_succ f hlt] at hrec
          rw [ifE] at hgt hrec
          simp only [zW,zX,zD,builtinA,isLeaf,const1,ustrA,simprocAttr,ti3,ti122,ti333,ti335,ca147,za333,cf,Tryz.results147,hl,dl,hgt]
          refine ⟨⟨by omega,by omega⟩,callO_intro hrec ?_⟩
          rintro r A4 hI4
          simp only [zW,zX,zD,builtinA,isLeaf,const1,ustrA,simprocAttr,ti3,ti122,ti333,ti335,ca147,za333,cf,Tryz.results147,hi1,LoopK_eq]
          refine ⟨⟨j + 1,by omega,rfl,hI4⟩,?_⟩
          simp only [intOf]
          omega
        · have dl : decide ((j : Int) < ((kidsE v).length : Nat)) = false:=decide_eq_false (by omega)
          have : j = (kidsE v).length:=by omega
          subst this
          rw [walkI_all] at hI3
          simp only [zW,zX,zD,builtinA,isLeaf,const1,ustrA,simprocAttr,ti3,ti122,ti333,ti335,ca147,za333,cf,Tryz.results147,hl,dl]
          exact hI3
    · have hin : inE v d = d:=by rw [inE,if_neg k4]
      simp only [zW,zX,zD,builtinA,isLeaf,const1,ustrA,simprocAttr,ti3,ti122,ti333,ti335,ca147,za333,cf,Tryz.results147,wpO_typeAssert,has,decide_eq_false k4,hw]
      refine wpO_invoke _ _ _ _ _ _ _ _ _ _ _ _ _ _ _ _ ?_
      simp only [zW,zX,zD,builtinA,isLeaf,const1,ustrA,simprocAttr,ti3,ti122,ti333,ti335,ca147,za333,cf,Tryz.results147]
      refine methE_invK (metE7 (by kernel_rfl) (by kernel_rfl) (by kernel_rfl) (by kernel_rfl) (by kernel_rfl) (by kernel_rfl) (by kernel_rfl) (by kernel_rfl) (by kernel_rfl) (by kernel_rfl) (by kernel_rfl) (by kernel_rfl) (by kernel_rfl) (by kernel_rfl)) (opsM v _) rfl (fun _=>rfl) ?_
      rintro r A2 ⟨rfl,rfl⟩
      simp only [zW,zX,zD,builtinA,isLeaf,const1,ustrA,simprocAttr,ti3,ti122,ti333,ti335,ca147,za333,cf,Tryz.results147,hl]
      refine aloop_intro [1,2,23,24,25] (fun e A'=>∃ j,j ≤ (kidsE v).length ∧ e = [(1,.int .i64 (inE v d)),(2,.func (.func g) [] cap),(23,.slice (rowsV (kidsE v))),(24,.int .i64 ((kidsE v).length : Nat)),(25,.int .i64 (j : Nat))] ∧ I (walkI f v d s j) A') (fun e _=>(kidsE v).length - (intOf (Abs.look 25 e)).toNat) ?_ ?_
      · exact ⟨0,by omega,by rw [hin]; rfl,by rw [walkI_zero]; exact hI2⟩
      · rintro e A3 ⟨j,hj,rfl,hI3⟩
        by_cases hlt : j < (kidsE v).length
        · have dl : decide ((j : Int) < ((kidsE v).length : Nat)) = true:=decide_eq_true (by omega)
          have hgt:=rowsV_getD hlt
          have hm:=kid_mem hlt
          have hdk:=depE_kid hm
          have hi1 : IntKind.i64.wrap ((j : Int) + 1) = ((j + 1 : Nat) : Int):=by rw [wrap64 (by omega) (by omega)]; rfl
          have hrec:=ih _ hm (inE v d) (walkI f v d s j) A3 (okE_kid ho hm) (by rw [hin]; omega) (by rw [hin]; omega) hI3
          rw [← walkI_succ f hlt] at hrec
          rw [ifE] at hgt hrec
          simp only [zW,zX,zD,builtinA,isLeaf,const1,ustrA,simprocAttr,ti3,ti122,ti333,ti335,ca147,za333,cf,Tryz.results147,hl,dl,hgt]
          refine ⟨⟨by omega,by omega⟩,callO_intro hrec ?_⟩
          rintro r A4 hI4
          simp only [zW,zX,zD,builtinA,isLeaf,const1,ustrA,simprocAttr,ti3,ti122,ti333,ti335,ca147,za333,cf,Tryz.results147,hi1,LoopK_eq]
          refine ⟨⟨j + 1,by omega,rfl,hI4⟩,?_⟩
          simp only [intOf]
          omega
        · have dl : decide ((j : Int) < ((kidsE v).length : Nat)) = false:=decide_eq_false (by omega)
          have : j = (kidsE v).length:=by omega
          subst this
          rw [walkI_all] at hI3
          simp only [zW,zX,zD,builtinA,isLeaf,const1,ustrA,simprocAttr,ti3,ti122,ti333,ti335,ca147,za333,cf,Tryz.results147,hl,dl]
          exact hI3
def MaxI (i : Nat) (A0 : List Box) (m : Int) (A : List Box) : Prop:=i < A.length ∧ A.getD i .dead = .cells [.int .i64 m] ∧ A.take i = A0 ∧ 0 ≤ m ∧ m ≤ 200
theorem MaxI.app {i : Nat} {A0 : List Box} (m : Int) (A L : List Box) (h : MaxI i A0 m A) : MaxI i A0 m (A ++ L) :=
  ⟨by have:=h.1; simp; omega,by rw [Abs.getD_append_left h.1]; exact h.2.1,by rw [List.take_append_of_le_length (by have:=h.1; omega)]; exact h.2.2.1,h.2.2.2⟩
theorem MaxI.set {i : Nat} {A0 : List Box} {m : Int} {A : List Box} (h : MaxI i A0 m A) (m' : Int) (h0 : 0 ≤ m') (h1 : m' ≤ 200) : MaxI i A0 m' (A.set i (.cells [.int .i64 m'])) :=
  ⟨by simpa using h.1,getD_set1 h.1,by rw [List.take_set_of_le (Nat.le_refl _)]; exact h.2.2.1,h0,h1⟩
end Go.Proofs.YtnjdbgiincliaaaGreat
/- Types that are owned: their lists of kids lie in boxes. -/
set_option linter.unusedVariables false
set_option linter.unusedSimpArgs false
namespace Go.Proofs.YtnjdbgiincliaaaGreat
open Go.Abs
mutual
def OwnT (A : List Box) : Ty → List AV → List Nat → Prop
  | .mk k m n ks,r,S=>∃ v,r = [.int .i64 k,.str m,.str n,v] ∧ ((v = .nils ∧ ks = [] ∧ S = []) ∨ (v = .slice [] ∧ ks = [] ∧ S = []) ∨ ∃ i rows S',v = .own i ∧ S = i :: S' ∧ A.getD i .dead = .gr none 4 rows ∧ OwnR A ks rows S')
def OwnR (A : List Box) : List Ty → List (List AV) → List Nat → Prop
  | [],rows,S=>rows = [] ∧ S = []
  | t :: ks,rows,S=>∃ r rows' S1 S2,rows = r :: rows' ∧ S = S1 ++ S2 ∧ OwnT A t r S1 ∧ OwnR A ks rows' S2
end
def OwnK (A : List Box) (ks : List Ty) (v : AV) (S : List Nat) : Prop :=
  (v = .nils ∧ ks = [] ∧ S = []) ∨ (v = .slice [] ∧ ks = [] ∧ S = []) ∨ ∃ i rows S',v = .own i ∧ S = i :: S' ∧ A.getD i .dead = .gr none 4 rows ∧ OwnR A ks rows S'
mutual
theorem OwnT.frame {A A' : List Box} : ∀ {t : Ty} {r : List AV} {S : List Nat},OwnT A t r S → (∀ i ∈ S,A'.getD i .dead = A.getD i .dead) → OwnT A' t r S
  | .mk k m n ks,r,S,h,hf=>by
    rw [OwnT] at h ⊢
    obtain ⟨v,hr,h⟩:=h
    refine ⟨v,hr,?_⟩
    rcases h with h | h | ⟨i,rows,S',h1,h2,h3,h4⟩
    · exact .inl h
    · exact .inr (.inl h)
    · subst h2
      exact .inr (.inr ⟨i,rows,S',h1,rfl,by rw [hf i (by simp)]; exact h3,OwnR.frame h4 fun j hj=>hf j (by simp [hj])⟩)
theorem OwnR.frame {A A' : List Box} : ∀ {ks : List Ty} {rows : List (List AV)} {S : List Nat},OwnR A ks rows S → (∀ i ∈ S,A'.getD i .dead = A.getD i .dead) → OwnR A' ks rows S
  | [],rows,S,h,hf=>by rw [OwnR] at h ⊢; exact h
  | t :: ks,rows,S,h,hf=>by
    rw [OwnR] at h ⊢
    obtain ⟨r,rows',S1,S2,h1,h2,h3,h4⟩:=h
    subst h2
    exact ⟨r,rows',S1,S2,h1,rfl,OwnT.frame h3 fun j hj=>hf j (by simp [hj]),OwnR.frame h4 fun j hj=>hf j (by simp [hj])⟩
end
theorem OwnK.frame {A A' : List Box} {ks : List Ty} {v : AV} {S : List Nat} (h : OwnK A ks v S) (hf : ∀ i ∈ S,A'.getD i .dead = A.getD i .dead) : OwnK A' ks v S:=by
  rcases h with h | h | ⟨i,rows,S',h1,h2,h3,h4⟩
  · exact .inl h
  · exact .inr (.inl h)
  · subst h2
    exact .inr (.inr ⟨i,rows,S',h1,rfl,by rw [hf i (by simp)]; exact h3,h4.frame fun j hj=>hf j (by simp [hj])⟩)
theorem OwnR.length {A : List Box} : ∀ {ks : List Ty} {rows : List (List AV)} {S : List Nat},OwnR A ks rows S → rows.length = ks.length
  | [],rows,S,h=>by rw [OwnR] at h; rw [h.1]; rfl
  | t :: ks,rows,S,h=>by
    rw [OwnR] at h
    obtain ⟨r,rows',S1,S2,h1,h2,h3,h4⟩:=h
    subst h1
    simp [OwnR.length h4]
theorem live_lt {A : List Box} {i : Nat} {b : Box} (h : A.getD i .dead = b) (hb : b ≠ .dead) : i < A.length:=by
  rcases Nat.lt_or_ge i A.length with hh | hh
  · exact hh
  · simp [List.getD,Nat.not_lt.2 hh] at h; exact absurd h.symm hb
mutual
theorem OwnT.low {A : List Box} : ∀ {t : Ty} {r : List AV} {S : List Nat},OwnT A t r S → ∀ i ∈ S,i < A.length
  | .mk k m n ks,r,S,h=>by
    rw [OwnT] at h
    obtain ⟨v,hr,h⟩:=h
    rcases h with ⟨_,_,rfl⟩ | ⟨_,_,rfl⟩ | ⟨i,rows,S',h1,rfl,h3,h4⟩
    · simp
    · simp
    · intro j hj
      rcases List.mem_cons.1 hj with rfl | hj
      · exact live_lt h3 (by simp)
      · exact OwnR.low h4 j hj
theorem OwnR.low {A : List Box} : ∀ {ks : List Ty} {rows : List (List AV)} {S : List Nat},OwnR A ks rows S → ∀ i ∈ S,i < A.length
  | [],rows,S,h=>by rw [OwnR] at h; rw [h.2]; simp
  | t :: ks,rows,S,h=>by
    rw [OwnR] at h
    obtain ⟨r,rows',S1,S2,h1,rfl,h3,h4⟩:=h
    intro j hj
    rcases List.mem_append.1 hj with hj | hj
    · exact OwnT.low h3 j hj
    · exact OwnR.low h4 j hj
end
theorem OwnK.low {A : List Box} {ks : List Ty} {v : AV} {S : List Nat} (h : OwnK A ks v S) : ∀ i ∈ S,i < A.length:=by
  rcases h with ⟨_,_,rfl⟩ | ⟨_,_,rfl⟩ | ⟨i,rows,S',h1,rfl,h3,h4⟩
  · simp
  · simp
  · intro j hj
    rcases List.mem_cons.1 hj with rfl | hj
    · exact live_lt h3 (by simp)
    · exact h4.low j hj
theorem enc4 (k : Int) (m n : List UInt8) (ks : List Ty) : enc (.mk k m n ks) = [.int .i64 k,.str m,.str n,.slice (encs ks)]:=by rw [enc]
theorem rows_view {A : List Box} {i : Nat} {rows : List (List AV)} {ks : List Ty} (h : A.getD i .dead = .gr none 4 rows) (hl : rows.length = ks.length)
    (hv : ∀ k,k < rows.length → ∀ j,j < 4 → View A ((rows.getD k []).getD j .bot) ((enc (ks.getD k ty0)).getD j .bot)) : View A (.own i) (.slice (encs ks)):=by
  refine .gr i 4 none rows (encs ks) h (by rw [encs_length,hl]) (fun r hr=>?_) fun k j hk hj=>?_
  · rw [encs_map] at hr
    obtain ⟨t,_,rfl⟩:=List.mem_map.1 hr
    exact ⟨enc_length t,enc_leaf t⟩
  · unfold Abs.rowAt
    rw [encs_getD (by omega)]
    exact hv k hk j hj
mutual
theorem OwnT.view {A : List Box} : ∀ {t : Ty} {r : List AV} {S : List Nat},OwnT A t r S → r.length = 4 ∧ ∀ j,j < 4 → View A (r.getD j .bot) ((enc t).getD j .bot)
  | .mk k m n ks,r,S,h=>by
    rw [OwnT] at h
    obtain ⟨v,rfl,h⟩:=h
    have hk : View A v (.slice (encs ks)):=by
      rcases h with ⟨rfl,rfl,_⟩ | ⟨rfl,rfl,_⟩ | ⟨i,rows,S',rfl,_,h3,h4⟩
      · exact .nils
      · exact .leaf _ rfl
      · exact rows_view h3 h4.length (OwnR.view h4)
    refine ⟨rfl,fun j hj=>?_⟩
    rw [enc4]
    match j,hj with
    | 0,_=>exact .leaf _ rfl
    | 1,_=>exact .leaf _ rfl
    | 2,_=>exact .leaf _ rfl
    | 3,_=>exact hk
theorem OwnR.view {A : List Box} : ∀ {ks : List Ty} {rows : List (List AV)} {S : List Nat},OwnR A ks rows S → ∀ k,k < rows.length → ∀ j,j < 4 → View A ((rows.getD k []).getD j .bot) ((enc (ks.getD k ty0)).getD j .bot)
  | [],rows,S,h=>by rw [OwnR] at h; rw [h.1]; intro k hk; simp at hk
  | t :: ks,rows,S,h=>by
    rw [OwnR] at h
    obtain ⟨r,rows',S1,S2,rfl,h2,h3,h4⟩:=h
    intro k hk j hj
    cases k with
    | zero=>exact (OwnT.view h3).2 j hj
    | succ k =>
      have:=OwnR.view h4 k (by simpa using hk) j hj
      simpa using this
end
theorem OwnK.view {A : List Box} {ks : List Ty} {v : AV} {S : List Nat} (h : OwnK A ks v S) : View A v (.slice (encs ks)):=by
  rcases h with ⟨rfl,rfl,_⟩ | ⟨rfl,rfl,_⟩ | ⟨i,rows,S',rfl,_,h3,h4⟩
  · exact .nils
  · exact .leaf _ rfl
  · exact rows_view h3 h4.length h4.view
end Go.Proofs.YtnjdbgiincliaaaGreat
/- Marks that the laws write into what is owned. -/
set_option linter.unusedVariables false
set_option linter.unusedSimpArgs false
namespace Go.Proofs.YtnjdbgiincliaaaGreat
open Go.Abs
theorem OwnR.append {A : List Box} : ∀ {k1 k2 : List Ty} {r1 r2 : List (List AV)} {S1 S2 : List Nat},OwnR A k1 r1 S1 → OwnR A k2 r2 S2 → OwnR A (k1 ++ k2) (r1 ++ r2) (S1 ++ S2)
  | [],k2,r1,r2,S1,S2,h1,h2=>by
    rw [OwnR] at h1
    rw [h1.1,h1.2]; exact h2
  | t :: k1,k2,r1,r2,S1,S2,h1,h2=>by
    rw [OwnR] at h1
    obtain ⟨r,r',T1,T2,rfl,rfl,h3,h4⟩:=h1
    rw [List.cons_append,OwnR]
    exact ⟨r,r' ++ r2,T1,T2 ++ S2,by simp,by simp,h3,OwnR.append h4 h2⟩
end Go.Proofs.YtnjdbgiincliaaaGreat
