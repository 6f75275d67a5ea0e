/- ExRead, Frk, ExRead2, ExRead3, ExNode. -/
import Derived.Test.YtnjdbgiincliaaaGreatX02
import Derived.Test.YtnjdbgiincliaaaGreatAbsW3
/- The program's reading of expressions. -/
set_option linter.unusedVariables false
set_option linter.unusedSimpArgs false
namespace Go.Proofs.YtnjdbgiincliaaaGreat
open Go.Abs
set_option maxRecDepth 100000 in
theorem impl_enter (i : Nat) (c d : Int) (A : List Box) (hi : i < A.length) (hA : A.getD i .dead = .cells [.int .i64 c]) (h0 : 0 ≤ c) (h1 : c ≤ 1000) :
    ACalls Tryz.prog 275 [.ptr i 0,.int .i64 d] A (fun r A'=>r = .bool (decide (c + 1 ≤ 400) && decide (d ≤ 40)) ∧ A' = A.set i (.cells [.int .i64 (c + 1)])):=by
  have hw : IntKind.i64.wrap (c + 1) = c + 1:=wrap64 (by omega) (by omega)
  have hg : ∀ X,(A.set i X).getD i .dead = X:=fun X=>getD_set1 hi
  have ho : Outer A (A.set i (.cells [.int .i64 (c + 1)])):=by have:=outer_set A [] i (.cells [.int .i64 (c + 1)]) rfl; simpa using this
  by_cases g1 : c + 1 ≤ 400
  · rw [decide_eq_true g1]
    refine acalls_enter (cf:=cf 18 [0,1,4]) foll Tryz.func275 Tryz.ntmps275 (by simp [cf]) ?_
    simp only [Tryz.f275,EnterK_some,zW,zX,zD,builtinA,isLeaf,const1,ustrA,simprocAttr,ti3,ti327,cf,Tryz.results275]
    simp only [zW,zX,zD,builtinA,isLeaf,const1,ustrA,simprocAttr,ti3,ti327,cf,Tryz.results275,hA,hw,hg,hi,decide_eq_true g1]
    exact ho
  · rw [decide_eq_false g1]
    refine acalls_enter (cf:=cf 18 [0,1,4]) foll Tryz.func275 Tryz.ntmps275 (by simp [cf]) ?_
    simp only [Tryz.f275,EnterK_some,zW,zX,zD,builtinA,isLeaf,const1,ustrA,simprocAttr,ti3,ti327,cf,Tryz.results275]
    simp only [zW,zX,zD,builtinA,isLeaf,const1,ustrA,simprocAttr,ti3,ti327,cf,Tryz.results275,hA,hw,hg,hi,decide_eq_false g1]
    exact ho
set_option maxRecDepth 100000 in
theorem impl_operandCount (k : Int) (A : List Box) : ACalls Tryz.prog 278 [.int .i64 k] A (fun r A'=>r = .int .i64 (opc k) ∧ A' = A):=by
  refine acalls_enter (cf:=cf 15 [0,2,3,4,8,10,13]) foll Tryz.func278 Tryz.ntmps278 (by simp [cf]) ?_
  simp only [Tryz.f278,EnterK_some,zW,zX,zD,builtinA,isLeaf,const1,ustrA,simprocAttr,ti3,cf,Tryz.results278]
  repeat' first
    | (refine guardT_intro (fun h=>?_) (fun h=>?_) <;> (try simp only [decide_eq_true_eq,decide_eq_false_iff_not,Bool.not_eq_eq_eq_not,Bool.not_true,Bool.not_false] at h) <;> simp only [zW,zX,zD,builtinA,isLeaf,const1,ustrA,simprocAttr,ti3,cf,Tryz.results278,h])
    | (refine guardF_intro (fun h=>?_) (fun h=>?_) <;> (try simp only [decide_eq_true_eq,decide_eq_false_iff_not,Bool.not_eq_eq_eq_not,Bool.not_true,Bool.not_false] at h) <;> simp only [zW,zX,zD,builtinA,isLeaf,const1,ustrA,simprocAttr,ti3,cf,Tryz.results278,h])
    | (refine condK_intro (fun h=>?_) (fun h=>?_) <;> (try simp only [decide_eq_true_eq,decide_eq_false_iff_not,Bool.not_eq_eq_eq_not,Bool.not_true,Bool.not_false] at h) <;> simp only [zW,zX,zD,builtinA,isLeaf,const1,ustrA,simprocAttr,ti3,cf,Tryz.results278,h])
    | (refine guardDT_intro (fun h=>?_) (fun h=>?_) <;> (try simp only [decide_eq_true_eq,decide_eq_false_iff_not,Bool.not_eq_eq_eq_not,Bool.not_true,Bool.not_false] at h) <;> simp only [zW,zX,zD,builtinA,isLeaf,const1,ustrA,simprocAttr,ti3,cf,Tryz.results278,h])
    | (refine guardDF_intro (fun h=>?_) (fun h=>?_) <;> (try simp only [decide_eq_true_eq,decide_eq_false_iff_not,Bool.not_eq_eq_eq_not,Bool.not_true,Bool.not_false] at h) <;> simp only [zW,zX,zD,builtinA,isLeaf,const1,ustrA,simprocAttr,ti3,cf,Tryz.results278,h])
    | refine And.intro ?_ ?_
  all_goals simp [opc, *]
set_option maxRecDepth 100000 in
set_option maxHeartbeats 4000000 in
theorem impl_unusedAreZero (k i : Int) (m n : List UInt8) (t : Ty) (ks : List (List AV)) (A : List Box) :
    ACalls Tryz.prog 276 [.agg [.int .i64 k,.int .i64 i,.str m,.str n,.int .i64 t.kind,.str t.mod,.str t.name,.slice (encs t.kids),.slice ks]] A (fun r A'=>r = .bool (zeroX k i m n t) ∧ A' = A):=by
  have hz:=fun A=>impl_TypeSame0 t A
  have hz0:=fun A=>impl_TypeSame0 ty0 A
  rw [show enc ty0 = [.int .i64 0,.str [],.str [],.slice []] from rfl] at hz hz0
  rw [encQ4] at hz
  by_cases k1 : k = 1
  · refine acalls_enter (cf:=cf 36 [0,1,2,4,5,9,13]) foll Tryz.func276 Tryz.ntmps276 (by simp [cf]) ?_
    simp only [Tryz.f276,EnterK_some,zW,zX,zD,builtinA,isLeaf,const1,ustrA,simprocAttr,ti3,ti9,ti36,ti39,ca251,cf,Tryz.results276]
    simp only [zW,zX,zD,builtinA,isLeaf,const1,ustrA,simprocAttr,ti3,ti9,ti36,ti39,ca251,cf,Tryz.results276,decide_eq_true k1]
    by_cases hm : m = []
    · simp only [zW,zX,zD,builtinA,isLeaf,const1,ustrA,simprocAttr,ti3,ti9,ti36,ti39,ca251,cf,Tryz.results276,decide_eq_true hm]
      by_cases hn : n = []
      · simp only [zW,zX,zD,builtinA,isLeaf,const1,ustrA,simprocAttr,ti3,ti9,ti36,ti39,ca251,cf,Tryz.results276,decide_eq_true hn]
        refine callK_intro (by simp only [zW,zX,zD,builtinA,isLeaf,const1,ustrA,simprocAttr,Option.map_some] <;> rfl) (hz _) ?_ rfl
        rintro r A' ⟨rfl,rfl⟩
        simp only [zW,zX,zD,builtinA,isLeaf,const1,ustrA,simprocAttr,ti3,ti9,ti36,ti39,ca251,cf,Tryz.results276]
        try simp [zeroX,k1,hm,hn]
      · simp only [zW,zX,zD,builtinA,isLeaf,const1,ustrA,simprocAttr,ti3,ti9,ti36,ti39,ca251,cf,Tryz.results276,decide_eq_false hn]
        try simp [zeroX,k1,hm,hn]
    · simp only [zW,zX,zD,builtinA,isLeaf,const1,ustrA,simprocAttr,ti3,ti9,ti36,ti39,ca251,cf,Tryz.results276,decide_eq_false hm]
      try simp [zeroX,k1,hm]
  by_cases k2 : k = 2
  · refine acalls_enter (cf:=cf 36 [0,1,2,4,5,9,13]) foll Tryz.func276 Tryz.ntmps276 (by simp [cf]) ?_
    simp only [Tryz.f276,EnterK_some,zW,zX,zD,builtinA,isLeaf,const1,ustrA,simprocAttr,ti3,ti9,ti36,ti39,ca251,cf,Tryz.results276]
    simp only [zW,zX,zD,builtinA,isLeaf,const1,ustrA,simprocAttr,ti3,ti9,ti36,ti39,ca251,cf,Tryz.results276,decide_eq_false k1,decide_eq_true k2]
    by_cases hm : m = []
    · simp only [zW,zX,zD,builtinA,isLeaf,const1,ustrA,simprocAttr,ti3,ti9,ti36,ti39,ca251,cf,Tryz.results276,decide_eq_true hm]
      by_cases hn : n = []
      · simp only [zW,zX,zD,builtinA,isLeaf,const1,ustrA,simprocAttr,ti3,ti9,ti36,ti39,ca251,cf,Tryz.results276,decide_eq_true hn]
        refine callK_intro (by simp only [zW,zX,zD,builtinA,isLeaf,const1,ustrA,simprocAttr,Option.map_some] <;> rfl) (hz _) ?_ rfl
        rintro r A' ⟨rfl,rfl⟩
        simp only [zW,zX,zD,builtinA,isLeaf,const1,ustrA,simprocAttr,ti3,ti9,ti36,ti39,ca251,cf,Tryz.results276]
        try simp [zeroX,k1,k2,hm,hn]
      · simp only [zW,zX,zD,builtinA,isLeaf,const1,ustrA,simprocAttr,ti3,ti9,ti36,ti39,ca251,cf,Tryz.results276,decide_eq_false hn]
        try simp [zeroX,k1,k2,hm,hn]
    · simp only [zW,zX,zD,builtinA,isLeaf,const1,ustrA,simprocAttr,ti3,ti9,ti36,ti39,ca251,cf,Tryz.results276,decide_eq_false hm]
      try simp [zeroX,k1,k2,hm]
  by_cases k3 : k = 3
  · refine acalls_enter (cf:=cf 36 [0,1,2,4,5,9,13]) foll Tryz.func276 Tryz.ntmps276 (by simp [cf]) ?_
    simp only [Tryz.f276,EnterK_some,zW,zX,zD,builtinA,isLeaf,const1,ustrA,simprocAttr,ti3,ti9,ti36,ti39,ca251,cf,Tryz.results276]
    simp only [zW,zX,zD,builtinA,isLeaf,const1,ustrA,simprocAttr,ti3,ti9,ti36,ti39,ca251,cf,Tryz.results276,decide_eq_false k1,decide_eq_false k2,decide_eq_true k3]
    by_cases hi : i = 0
    · simp only [zW,zX,zD,builtinA,isLeaf,const1,ustrA,simprocAttr,ti3,ti9,ti36,ti39,ca251,cf,Tryz.results276,decide_eq_true hi]
      refine callK_intro (by simp only [zW,zX,zD,builtinA,isLeaf,const1,ustrA,simprocAttr,Option.map_some] <;> rfl) (hz _) ?_ rfl
      rintro r A' ⟨rfl,rfl⟩
      simp only [zW,zX,zD,builtinA,isLeaf,const1,ustrA,simprocAttr,ti3,ti9,ti36,ti39,ca251,cf,Tryz.results276]
      try simp [zeroX,k1,k2,k3,hi]
    · simp only [zW,zX,zD,builtinA,isLeaf,const1,ustrA,simprocAttr,ti3,ti9,ti36,ti39,ca251,cf,Tryz.results276,decide_eq_false hi]
      try simp [zeroX,k1,k2,k3,hi]
  by_cases k4 : k = 4
  · refine acalls_enter (cf:=cf 36 [0,1,2,4,5,9,13]) foll Tryz.func276 Tryz.ntmps276 (by simp [cf]) ?_
    simp only [Tryz.f276,EnterK_some,zW,zX,zD,builtinA,isLeaf,const1,ustrA,simprocAttr,ti3,ti9,ti36,ti39,ca251,cf,Tryz.results276]
    simp only [zW,zX,zD,builtinA,isLeaf,const1,ustrA,simprocAttr,ti3,ti9,ti36,ti39,ca251,cf,Tryz.results276,decide_eq_false k1,decide_eq_false k2,decide_eq_false k3,decide_eq_true k4]
    by_cases hi : i = 0
    · simp only [zW,zX,zD,builtinA,isLeaf,const1,ustrA,simprocAttr,ti3,ti9,ti36,ti39,ca251,cf,Tryz.results276,decide_eq_true hi]
      by_cases hm : m = []
      · simp only [zW,zX,zD,builtinA,isLeaf,const1,ustrA,simprocAttr,ti3,ti9,ti36,ti39,ca251,cf,Tryz.results276,decide_eq_true hm]
        by_cases hn : n = []
        · simp only [zW,zX,zD,builtinA,isLeaf,const1,ustrA,simprocAttr,ti3,ti9,ti36,ti39,ca251,cf,Tryz.results276,decide_eq_true hn]
          refine callK_intro (by simp only [zW,zX,zD,builtinA,isLeaf,const1,ustrA,simprocAttr,Option.map_some] <;> rfl) (hz0 _) ?_ rfl
          rintro r A' ⟨rfl,rfl⟩
          simp only [zW,zX,zD,builtinA,isLeaf,const1,ustrA,simprocAttr,ti3,ti9,ti36,ti39,ca251,cf,Tryz.results276]
          try simp [zeroX,k1,k2,k3,k4,hi,hm,hn]
        · simp only [zW,zX,zD,builtinA,isLeaf,const1,ustrA,simprocAttr,ti3,ti9,ti36,ti39,ca251,cf,Tryz.results276,decide_eq_false hn]
          try simp [zeroX,k1,k2,k3,k4,hi,hm,hn]
      · simp only [zW,zX,zD,builtinA,isLeaf,const1,ustrA,simprocAttr,ti3,ti9,ti36,ti39,ca251,cf,Tryz.results276,decide_eq_false hm]
        try simp [zeroX,k1,k2,k3,k4,hi,hm]
    · simp only [zW,zX,zD,builtinA,isLeaf,const1,ustrA,simprocAttr,ti3,ti9,ti36,ti39,ca251,cf,Tryz.results276,decide_eq_false hi]
      try simp [zeroX,k1,k2,k3,k4,hi]
  refine acalls_enter (cf:=cf 36 [0,1,2,4,5,9,13]) foll Tryz.func276 Tryz.ntmps276 (by simp [cf]) ?_
  simp only [Tryz.f276,EnterK_some,zW,zX,zD,builtinA,isLeaf,const1,ustrA,simprocAttr,ti3,ti9,ti36,ti39,ca251,cf,Tryz.results276]
  simp only [zW,zX,zD,builtinA,isLeaf,const1,ustrA,simprocAttr,ti3,ti9,ti36,ti39,ca251,cf,Tryz.results276,decide_eq_false k1,decide_eq_false k2,decide_eq_false k3,decide_eq_false k4]
  by_cases hi : i = 0
  · simp only [zW,zX,zD,builtinA,isLeaf,const1,ustrA,simprocAttr,ti3,ti9,ti36,ti39,ca251,cf,Tryz.results276,decide_eq_true hi]
    by_cases hm : m = []
    · simp only [zW,zX,zD,builtinA,isLeaf,const1,ustrA,simprocAttr,ti3,ti9,ti36,ti39,ca251,cf,Tryz.results276,decide_eq_true hm]
      by_cases hn : n = []
      · simp only [zW,zX,zD,builtinA,isLeaf,const1,ustrA,simprocAttr,ti3,ti9,ti36,ti39,ca251,cf,Tryz.results276,decide_eq_true hn]
        refine callK_intro (by simp only [zW,zX,zD,builtinA,isLeaf,const1,ustrA,simprocAttr,Option.map_some] <;> rfl) (hz _) ?_ rfl
        rintro r A' ⟨rfl,rfl⟩
        simp only [zW,zX,zD,builtinA,isLeaf,const1,ustrA,simprocAttr,ti3,ti9,ti36,ti39,ca251,cf,Tryz.results276]
        try simp [zeroX,k1,k2,k3,k4,hi,hm,hn]
      · simp only [zW,zX,zD,builtinA,isLeaf,const1,ustrA,simprocAttr,ti3,ti9,ti36,ti39,ca251,cf,Tryz.results276,decide_eq_false hn]
        try simp [zeroX,k1,k2,k3,k4,hi,hm,hn]
    · simp only [zW,zX,zD,builtinA,isLeaf,const1,ustrA,simprocAttr,ti3,ti9,ti36,ti39,ca251,cf,Tryz.results276,decide_eq_false hm]
      try simp [zeroX,k1,k2,k3,k4,hi,hm]
  · simp only [zW,zX,zD,builtinA,isLeaf,const1,ustrA,simprocAttr,ti3,ti9,ti36,ti39,ca251,cf,Tryz.results276,decide_eq_false hi]
    try simp [zeroX,k1,k2,k3,k4,hi]
set_option maxRecDepth 100000 in
set_option maxHeartbeats 4000000 in
theorem impl_readHead (k i : Int) (m n : List UInt8) (t : Ty) (ks : List (List AV)) (vs : List VE) (hl : (vs.length : Int) = opc k) (A : List Box) :
    ACalls Tryz.prog 280 [.agg [.int .i64 k,.int .i64 i,.str m,.str n,.int .i64 t.kind,.str t.mod,.str t.name,.slice (encs t.kids),.slice ks],.slice (rowsV vs)] A (fun r A'=>r = .tuple [(headX k i m n t vs).1,.bool (headX k i m n t vs).2.isSome] ∧ A' = A):=by
  by_cases k1 : k = 1
  · have hd : decide (0 ≤ i ∧ i ≤ 12) = (decide (0 ≤ i) && decide (i ≤ 12)):=by rw [Bool.eq_iff_iff]; simp
    rw [headX,if_pos k1]
    refine acalls_enter (cf:=cf 99 [0,1,2,4,5,6,7,9,10,24,38,51,66,76,86]) foll Tryz.func280 Tryz.ntmps280 (by simp [cf]) ?_
    simp only [Tryz.f280,EnterK_some,zW,zX,zD,builtinA,isLeaf,const1,ustrA,simprocAttr,ti3,ti9,ti36,ti39,ti122,ti222,ti333,ti335,ti345,ti439,ti441,ti443,ti445,ca111,ca261,cf,Tryz.results280]
    simp only [zW,zX,zD,builtinA,isLeaf,const1,ustrA,simprocAttr,ti3,ti9,ti36,ti39,ti122,ti222,ti333,ti335,ti345,ti439,ti441,ti443,ti445,ca111,ca261,cf,Tryz.results280,decide_eq_true k1]
    refine .inl ⟨by kernel_rfl,by kernel_rfl,?_⟩
    by_cases h1 : 0 ≤ i
    · by_cases h2 : i ≤ 12
      · simp only [zW,zX,zD,builtinA,isLeaf,const1,ustrA,simprocAttr,ti3,ti9,ti36,ti39,ti122,ti222,ti333,ti335,ti345,ti439,ti441,ti443,ti445,ca111,ca261,cf,Tryz.results280,decide_eq_true h1,decide_eq_true h2]
        simp [h1,h2]
      · simp only [zW,zX,zD,builtinA,isLeaf,const1,ustrA,simprocAttr,ti3,ti9,ti36,ti39,ti122,ti222,ti333,ti335,ti345,ti439,ti441,ti443,ti445,ca111,ca261,cf,Tryz.results280,decide_eq_true h1,decide_eq_false h2]
        simp [h1,h2]
    · simp only [zW,zX,zD,builtinA,isLeaf,const1,ustrA,simprocAttr,ti3,ti9,ti36,ti39,ti122,ti222,ti333,ti335,ti345,ti439,ti441,ti443,ti445,ca111,ca261,cf,Tryz.results280,decide_eq_false h1]
      simp [h1]
  by_cases k2 : k = 2
  · rw [headX,if_neg k1,if_pos k2]
    refine acalls_enter (cf:=cf 99 [0,1,2,4,5,6,7,9,10,24,38,51,66,76,86]) foll Tryz.func280 Tryz.ntmps280 (by simp [cf]) ?_
    simp only [Tryz.f280,EnterK_some,zW,zX,zD,builtinA,isLeaf,const1,ustrA,simprocAttr,ti3,ti9,ti36,ti39,ti122,ti222,ti333,ti335,ti345,ti439,ti441,ti443,ti445,ca111,ca261,cf,Tryz.results280]
    simp only [zW,zX,zD,builtinA,isLeaf,const1,ustrA,simprocAttr,ti3,ti9,ti36,ti39,ti122,ti222,ti333,ti335,ti345,ti439,ti441,ti443,ti445,ca111,ca261,cf,Tryz.results280,decide_eq_false k1,decide_eq_true k2]
    refine .inl ⟨by kernel_rfl,by kernel_rfl,?_⟩
    by_cases h1 : 0 ≤ i
    · by_cases h2 : i ≤ 99
      · simp only [zW,zX,zD,builtinA,isLeaf,const1,ustrA,simprocAttr,ti3,ti9,ti36,ti39,ti122,ti222,ti333,ti335,ti345,ti439,ti441,ti443,ti445,ca111,ca261,cf,Tryz.results280,decide_eq_true h1,decide_eq_true h2]
        simp [h1,h2]
      · simp only [zW,zX,zD,builtinA,isLeaf,const1,ustrA,simprocAttr,ti3,ti9,ti36,ti39,ti122,ti222,ti333,ti335,ti345,ti439,ti441,ti443,ti445,ca111,ca261,cf,Tryz.results280,decide_eq_true h1,decide_eq_false h2]
        simp [h1,h2]
    · simp only [zW,zX,zD,builtinA,isLeaf,const1,ustrA,simprocAttr,ti3,ti9,ti36,ti39,ti122,ti222,ti333,ti335,ti345,ti439,ti441,ti443,ti445,ca111,ca261,cf,Tryz.results280,decide_eq_false h1]
      simp [h1]
  by_cases k3 : k = 3
  · rw [headX,if_neg k1,if_neg k2,if_pos k3]
    refine acalls_enter (cf:=cf 99 [0,1,2,4,5,6,7,9,10,24,38,51,66,76,86]) foll Tryz.func280 Tryz.ntmps280 (by simp [cf]) ?_
    simp only [Tryz.f280,EnterK_some,zW,zX,zD,builtinA,isLeaf,const1,ustrA,simprocAttr,ti3,ti9,ti36,ti39,ti122,ti222,ti333,ti335,ti345,ti439,ti441,ti443,ti445,ca111,ca261,cf,Tryz.results280]
    simp only [zW,zX,zD,builtinA,isLeaf,const1,ustrA,simprocAttr,ti3,ti9,ti36,ti39,ti122,ti222,ti333,ti335,ti345,ti439,ti441,ti443,ti445,ca111,ca261,cf,Tryz.results280,decide_eq_false k1,decide_eq_false k2,decide_eq_true k3]
    refine .inl ⟨by kernel_rfl,by kernel_rfl,?_⟩
    refine callD_intro (by simp only [zW,zX,zD,builtinA,isLeaf,const1,ustrA,simprocAttr,Option.map_some] <;> rfl) (impl_validName m n _) ?_ rfl
    simp only [zW,zX,zD,builtinA,isLeaf,const1,ustrA,simprocAttr,ti3,ti9,ti36,ti39,ti122,ti222,ti333,ti335,ti345,ti439,ti441,ti443,ti445,ca111,ca261,cf,Tryz.results280]
    cases hn : ((decide (m = []) || moduleB m) && localB n) <;> rfl
  by_cases k4 : k = 4
  · obtain ⟨b,rfl⟩ : ∃ b,vs = [b]:=by
      match vs,hl with
      | [b],_=>exact ⟨b,rfl⟩
      | [],hl=>simp [opc,k4] at hl
      | _ :: _ :: _,hl=>simp [opc,k4] at hl; omega
    have hr:=fun A=>impl_readType t A
    rw [encQ4] at hr
    rw [headX,if_neg k1,if_neg k2,if_neg k3,if_pos k4]
    refine acalls_enter (cf:=cf 99 [0,1,2,4,5,6,7,9,10,24,38,51,66,76,86]) foll Tryz.func280 Tryz.ntmps280 (by simp [cf]) ?_
    simp only [Tryz.f280,EnterK_some,zW,zX,zD,builtinA,isLeaf,const1,ustrA,simprocAttr,ti3,ti9,ti36,ti39,ti122,ti222,ti333,ti335,ti345,ti439,ti441,ti443,ti445,ca111,ca261,cf,Tryz.results280]
    simp only [zW,zX,zD,builtinA,isLeaf,const1,ustrA,simprocAttr,ti3,ti9,ti36,ti39,ti122,ti222,ti333,ti335,ti345,ti439,ti441,ti443,ti445,ca111,ca261,cf,Tryz.results280,decide_eq_false k1,decide_eq_false k2,decide_eq_false k3,decide_eq_true k4]
    refine callK_intro (by simp only [zW,zX,zD,builtinA,isLeaf,const1,ustrA,simprocAttr,Option.map_some] <;> rfl) (hr _) ?_ rfl
    rintro r A' ⟨⟨v,rfl,hv,rfl⟩ | ⟨hv,rfl⟩,rfl⟩
    · rw [rdT_toTy hv]
      simp only [zW,zX,zD,builtinA,isLeaf,const1,ustrA,simprocAttr,ti3,ti9,ti36,ti39,ti122,ti222,ti333,ti335,ti345,ti439,ti441,ti443,ti445,ca111,ca261,cf,Tryz.results280,rowsV,ifE,List.map_cons,List.map_nil,List.getD_cons_zero,List.length_cons,List.length_nil]
      try simp
    · rw [rdT_bad hv]
      simp only [zW,zX,zD,builtinA,isLeaf,const1,ustrA,simprocAttr,ti3,ti9,ti36,ti39,ti122,ti222,ti333,ti335,ti345,ti439,ti441,ti443,ti445,ca111,ca261,cf,Tryz.results280,rowsV,ifE,List.map_cons,List.map_nil,List.getD_cons_zero,List.length_cons,List.length_nil]
      try simp
  by_cases k5 : k = 5
  · obtain ⟨a,b,rfl⟩ : ∃ a b,vs = [a,b]:=by
      match vs,hl with
      | [a,b],_=>exact ⟨a,b,rfl⟩
      | [],hl=>simp [opc,k5] at hl
      | [_],hl=>simp [opc,k5] at hl
      | _ :: _ :: _ :: _,hl=>simp [opc,k5] at hl; omega
    rw [headX,if_neg k1,if_neg k2,if_neg k3,if_neg k4,if_pos k5]
    refine acalls_enter (cf:=cf 99 [0,1,2,4,5,6,7,9,10,24,38,51,66,76,86]) foll Tryz.func280 Tryz.ntmps280 (by simp [cf]) ?_
    simp only [Tryz.f280,EnterK_some,zW,zX,zD,builtinA,isLeaf,const1,ustrA,simprocAttr,ti3,ti9,ti36,ti39,ti122,ti222,ti333,ti335,ti345,ti439,ti441,ti443,ti445,ca111,ca261,cf,Tryz.results280]
    simp only [zW,zX,zD,builtinA,isLeaf,const1,ustrA,simprocAttr,ti3,ti9,ti36,ti39,ti122,ti222,ti333,ti335,ti345,ti439,ti441,ti443,ti445,ca111,ca261,cf,Tryz.results280,decide_eq_false k1,decide_eq_false k2,decide_eq_false k3,decide_eq_false k4,decide_eq_true k5]
    refine .inl ⟨by kernel_rfl,by kernel_rfl,?_⟩
    simp only [zW,zX,zD,builtinA,isLeaf,const1,ustrA,simprocAttr,ti3,ti9,ti36,ti39,ti122,ti222,ti333,ti335,ti345,ti439,ti441,ti443,ti445,ca111,ca261,cf,Tryz.results280,rowsV,ifE,List.map_cons,List.map_nil,List.getD_cons_zero,List.getD_cons_succ,List.length_cons,List.length_nil]
    try simp
  by_cases k6 : k = 6
  · obtain ⟨a,b,rfl⟩ : ∃ a b,vs = [a,b]:=by
      match vs,hl with
      | [a,b],_=>exact ⟨a,b,rfl⟩
      | [],hl=>simp [opc,k6] at hl
      | [_],hl=>simp [opc,k6] at hl
      | _ :: _ :: _ :: _,hl=>simp [opc,k6] at hl; omega
    rw [headX,if_neg k1,if_neg k2,if_neg k3,if_neg k4,if_neg k5,if_pos k6]
    refine acalls_enter (cf:=cf 99 [0,1,2,4,5,6,7,9,10,24,38,51,66,76,86]) foll Tryz.func280 Tryz.ntmps280 (by simp [cf]) ?_
    simp only [Tryz.f280,EnterK_some,zW,zX,zD,builtinA,isLeaf,const1,ustrA,simprocAttr,ti3,ti9,ti36,ti39,ti122,ti222,ti333,ti335,ti345,ti439,ti441,ti443,ti445,ca111,ca261,cf,Tryz.results280]
    simp only [zW,zX,zD,builtinA,isLeaf,const1,ustrA,simprocAttr,ti3,ti9,ti36,ti39,ti122,ti222,ti333,ti335,ti345,ti439,ti441,ti443,ti445,ca111,ca261,cf,Tryz.results280,decide_eq_false k1,decide_eq_false k2,decide_eq_false k3,decide_eq_false k4,decide_eq_false k5,decide_eq_true k6]
    refine .inl ⟨by kernel_rfl,by kernel_rfl,?_⟩
    simp only [zW,zX,zD,builtinA,isLeaf,const1,ustrA,simprocAttr,ti3,ti9,ti36,ti39,ti122,ti222,ti333,ti335,ti345,ti439,ti441,ti443,ti445,ca111,ca261,cf,Tryz.results280,rowsV,ifE,List.map_cons,List.map_nil,List.getD_cons_zero,List.getD_cons_succ,List.length_cons,List.length_nil]
    try simp
  by_cases k7 : k = 7
  · obtain ⟨e,a,b,rfl⟩ : ∃ e a b,vs = [e,a,b]:=by
      match vs,hl with
      | [e,a,b],_=>exact ⟨e,a,b,rfl⟩
      | [],hl=>simp [opc,k7] at hl
      | [_],hl=>simp [opc,k7] at hl
      | [_,_],hl=>simp [opc,k7] at hl
      | _ :: _ :: _ :: _ :: _,hl=>simp [opc,k7] at hl; omega
    rw [headX,if_neg k1,if_neg k2,if_neg k3,if_neg k4,if_neg k5,if_neg k6,if_pos k7]
    refine acalls_enter (cf:=cf 99 [0,1,2,4,5,6,7,9,10,24,38,51,66,76,86]) foll Tryz.func280 Tryz.ntmps280 (by simp [cf]) ?_
    simp only [Tryz.f280,EnterK_some,zW,zX,zD,builtinA,isLeaf,const1,ustrA,simprocAttr,ti3,ti9,ti36,ti39,ti122,ti222,ti333,ti335,ti345,ti439,ti441,ti443,ti445,ca111,ca261,cf,Tryz.results280]
    simp only [zW,zX,zD,builtinA,isLeaf,const1,ustrA,simprocAttr,ti3,ti9,ti36,ti39,ti122,ti222,ti333,ti335,ti345,ti439,ti441,ti443,ti445,ca111,ca261,cf,Tryz.results280,decide_eq_false k1,decide_eq_false k2,decide_eq_false k3,decide_eq_false k4,decide_eq_false k5,decide_eq_false k6,decide_eq_true k7]
    refine .inl ⟨by kernel_rfl,by kernel_rfl,?_⟩
    simp only [zW,zX,zD,builtinA,isLeaf,const1,ustrA,simprocAttr,ti3,ti9,ti36,ti39,ti122,ti222,ti333,ti335,ti345,ti439,ti441,ti443,ti445,ca111,ca261,cf,Tryz.results280,rowsV,ifE,List.map_cons,List.map_nil,List.getD_cons_zero,List.getD_cons_succ,List.length_cons,List.length_nil]
    try simp
  rw [headX,if_neg k1,if_neg k2,if_neg k3,if_neg k4,if_neg k5,if_neg k6,if_neg k7]
  refine acalls_enter (cf:=cf 99 [0,1,2,4,5,6,7,9,10,24,38,51,66,76,86]) foll Tryz.func280 Tryz.ntmps280 (by simp [cf]) ?_
  simp only [Tryz.f280,EnterK_some,zW,zX,zD,builtinA,isLeaf,const1,ustrA,simprocAttr,ti3,ti9,ti36,ti39,ti122,ti222,ti333,ti335,ti345,ti439,ti441,ti443,ti445,ca111,ca261,cf,Tryz.results280]
  simp only [zW,zX,zD,builtinA,isLeaf,const1,ustrA,simprocAttr,ti3,ti9,ti36,ti39,ti122,ti222,ti333,ti335,ti345,ti439,ti441,ti443,ti445,ca111,ca261,cf,Tryz.results280,decide_eq_false k1,decide_eq_false k2,decide_eq_false k3,decide_eq_false k4,decide_eq_false k5,decide_eq_false k6,decide_eq_false k7]
  try simp
end Go.Proofs.YtnjdbgiincliaaaGreat
/- Calls that change one box at most. -/
set_option linter.unusedVariables false
set_option linter.unusedSimpArgs false
namespace Go.Proofs.YtnjdbgiincliaaaGreat
open Go.Abs
def FrK (i : Nat) (A A' : List Box) : Prop:=A.length ≤ A'.length ∧ ∀ k,k < A.length → k ≠ i → A'.getD k .dead = A.getD k .dead
theorem FrK.trans {i : Nat} {A B C : List Box} (h : FrK i A B) (k : FrK i B C) : FrK i A C :=
  ⟨Nat.le_trans h.1 k.1,fun x hx hi=>by rw [k.2 x (Nat.lt_of_lt_of_le hx h.1) hi,h.2 x hx hi]⟩
theorem FrK.app (i : Nat) (A B : List Box) : FrK i A (A ++ B):=⟨by simp,fun k hk _=>Abs.getD_append_left hk⟩
theorem FrK.refl (i : Nat) (A : List Box) : FrK i A A:=⟨Nat.le_refl _,fun _ _ _=>rfl⟩
end Go.Proofs.YtnjdbgiincliaaaGreat
/- The program's reading of expressions, put together. -/
set_option linter.unusedVariables false
set_option linter.unusedSimpArgs false
namespace Go.Proofs.YtnjdbgiincliaaaGreat
open Go.Abs
theorem set_same {A : List Box} {i : Nat} {X : Box} (hi : i < A.length) (h : A.getD i .dead = X) : A.set i X = A:=by
  apply List.ext_getElem?
  intro k
  by_cases hk : i = k
  · subst hk
    rw [List.getElem?_set_self hi]
    have : A[i]? = some A[i]:=List.getElem?_eq_getElem hi
    simp [List.getD,hi] at h
    rw [this,h]
  · rw [List.getElem?_set_ne hk]
theorem set_set_app {A L : List Box} {i : Nat} {X Y : Box} (hi : i < A.length) : (A.set i X ++ L).set i Y = A.set i Y ++ L:=by
  rw [List.set_append_left _ _ (by simpa using hi),List.set_set]
theorem set_app {A L : List Box} {i : Nat} {Y : Box} (hi : i < A.length) : (A ++ L).set i Y = A.set i Y ++ L:=by
  rw [List.set_append_left _ _ hi]
theorem headX_val (k i : Int) (m n : List UInt8) (t : Ty) (vs : List VE) : (headX k i m n t vs).1 = .nili ∨ ∃ T y,(headX k i m n t vs).1 = .iface T y:=by
  unfold headX
  repeat' split
  all_goals first | exact .inl rfl | exact .inr ⟨_,_,rfl⟩
theorem readX_val (x : Ex) (d c : Int) : (readX x d c).1.1 = .nili ∨ ∃ T y,(readX x d c).1.1 = .iface T y:=by
  cases x with
  | mk k i m n t ks =>
    rw [readX]
    split
    · exact .inl rfl
    · split
      · exact .inl rfl
      · unfold fin
        split
        · exact .inl rfl
        · split
          · exact headX_val _ _ _ _ _ _
          · exact .inl rfl
theorem readXs_app (d : Int) : ∀ (l l' : List Ex) (c : Int),readXs (l ++ l') d c = match (readXs l d c).1 with
    | none=>(none,(readXs l d c).2)
    | some vs=>((readXs l' d (readXs l d c).2).1.map (vs ++ ·),(readXs l' d (readXs l d c).2).2)
  | [],l',c=>by simp [readXs]
  | x :: l,l',c=>by
    rw [List.cons_append,readXs,readXs,readXs_app d l l' _]
    unfold next
    cases (readX x d c).1.2 with
    | none=>rfl
    | some v =>
      simp only
      cases (readXs l d (readX x d c).2).1 with
      | none=>rfl
      | some vs =>
        simp only
        cases (readXs l' d (readXs l d (readX x d c).2).2).1 <;> simp
theorem readXs_step {ks : List Ex} {d c : Int} {i : Nat} {vs : List VE} {ci : Int} (hi : i < ks.length) (h : readXs (ks.take i) d c = (some vs,ci)) :
    readXs (ks.take (i + 1)) d c = ((readX (ks.getD i ex0) d ci).1.2.map fun v=>vs ++ [v],(readX (ks.getD i ex0) d ci).2):=by
  rw [ex_take hi,readXs_app,h]
  simp only [readXs,next]
  cases (readX (ks.getD i ex0) d ci).1.2 <;> simp
theorem readXs_stop {ks : List Ex} {d c : Int} {i : Nat} {ci : Int} (hi : i ≤ ks.length) (h : readXs (ks.take i) d c = (none,ci)) : readXs ks d c = (none,ci):=by
  have e : ks = ks.take i ++ ks.drop i:=(List.take_append_drop i ks).symm
  rw [e,readXs_app,h]
def NodeX (x : Ex) : Prop:=∀ (ir : Nat) (c d : Int) (A : List Box),ir < A.length → A.getD ir .dead = .cells [.int .i64 c] → 0 ≤ c → c ≤ 400 → 1 ≤ d → d ≤ 41 →
  ACalls Tryz.prog 227 [.ptr ir 0,.agg (encX x),.int .i64 d] A (fun r A'=>r = .tuple [(readX x d c).1.1,.bool (readX x d c).1.2.isSome] ∧ A' = A.set ir (.cells [.int .i64 (readX x d c).2]))
structure RdSt (ir jr jd : Nat) (c d : Int) (A : List Box) : Prop where
  lr : ir < A.length
  lj : jr < A.length
  ld : jd < A.length
  nr : ir ≠ jr
  nd : ir ≠ jd
  gc : A.getD ir .dead = .cells [.int .i64 c]
  gr : A.getD jr .dead = .cells [.ptr ir 0]
  gd : A.getD jd .dead = .cells [.int .i64 d]
theorem RdSt.app {ir jr jd : Nat} {c d : Int} {A : List Box} (h : RdSt ir jr jd c d A) (L : List Box) : RdSt ir jr jd c d (A ++ L) :=
  ⟨by have:=h.lr; simp; omega,by have:=h.lj; simp; omega,by have:=h.ld; simp; omega,h.nr,h.nd,by rw [Abs.getD_append_left h.lr]; exact h.gc,by rw [Abs.getD_append_left h.lj]; exact h.gr,by rw [Abs.getD_append_left h.ld]; exact h.gd⟩
theorem RdSt.set {ir jr jd : Nat} {c d : Int} {A : List Box} (h : RdSt ir jr jd c d A) (c' : Int) : RdSt ir jr jd c' d (A.set ir (.cells [.int .i64 c'])) :=
  ⟨by have:=h.lr; simpa,by have:=h.lj; simpa,by have:=h.ld; simpa,h.nr,h.nd,getD_set1 h.lr,by rw [Go.Abs.getD_set_ne' h.nr]; exact h.gr,by rw [Go.Abs.getD_set_ne' h.nd]; exact h.gd⟩
set_option maxRecDepth 100000 in
theorem node_clos (x : Ex) (hx : NodeX x) (ir jr jd : Nat) (c d : Int) (A : List Box) (h : RdSt ir jr jd c d A) (h0 : 0 ≤ c) (h1 : c ≤ 400) (h2 : 0 ≤ d) (h3 : d ≤ 40) :
    ACalls Tryz.prog 279 [.agg (encX x),.ptr jr 0,.ptr jd 0] A (fun r A'=>r = .tuple [(readX x (d + 1) c).1.1,.bool (readX x (d + 1) c).1.2.isSome] ∧ A' = A.set ir (.cells [.int .i64 (readX x (d + 1) c).2])):=by
  have hw : IntKind.i64.wrap (d + 1) = d + 1:=wrap64 (by omega) (by omega)
  have hA:=h.app [.cells (encX x)]
  have hgr:=hA.gr
  have hgd:=hA.gd
  have hir:=h.lr
  have hn:=hx ir c (d + 1) _ hA.lr hA.gc h0 h1 (by omega) (by omega)
  have hv:=readX_val x (d + 1) c
  generalize hq : readX x (d + 1) c = q at *
  obtain ⟨⟨v,o⟩,c'⟩:=q
  simp only at hv hn ⊢
  have ho : Outer A (A.set ir (.cells [.int .i64 c'])):=outer_set0 A ir _ rfl
  rcases hv with rfl | ⟨T,y,rfl⟩
  · refine acalls_enter (cf:=cf 13 [0,1,2,3,4,5]) foll Tryz.func279 Tryz.ntmps279 (by simp [cf]) ?_
    simp only [Tryz.f279,EnterK_some,zW,zX,zD,builtinA,isLeaf,const1,ustrA,simprocAttr,ti3,ti39,ti398,ca227,cf,Tryz.results279]
    simp only [zW,zX,zD,builtinA,isLeaf,const1,ustrA,simprocAttr,ti3,ti39,ti398,ca227,cf,Tryz.results279,hgr,hgd,hw,encX_length,encX_take]
    refine callK_intro (by simp only [zW,zX,zD,builtinA,isLeaf,const1,ustrA,simprocAttr,frzL_encX,Option.map_some] <;> rfl) (hn) ?_ rfl
    rintro r A' ⟨rfl,rfl⟩
    simp only [zW,zX,zD,builtinA,isLeaf,const1,ustrA,simprocAttr,ti3,ti39,ti398,ca227,cf,Tryz.results279,set_app hir]
    try exact outer_set A _ ir _ rfl
  · refine acalls_enter (cf:=cf 13 [0,1,2,3,4,5]) foll Tryz.func279 Tryz.ntmps279 (by simp [cf]) ?_
    simp only [Tryz.f279,EnterK_some,zW,zX,zD,builtinA,isLeaf,const1,ustrA,simprocAttr,ti3,ti39,ti398,ca227,cf,Tryz.results279]
    simp only [zW,zX,zD,builtinA,isLeaf,const1,ustrA,simprocAttr,ti3,ti39,ti398,ca227,cf,Tryz.results279,hgr,hgd,hw,encX_length,encX_take]
    refine callK_intro (by simp only [zW,zX,zD,builtinA,isLeaf,const1,ustrA,simprocAttr,frzL_encX,Option.map_some] <;> rfl) (hn) ?_ rfl
    rintro r A' ⟨rfl,rfl⟩
    simp only [zW,zX,zD,builtinA,isLeaf,const1,ustrA,simprocAttr,ti3,ti39,ti398,ca227,cf,Tryz.results279,set_app hir]
    try exact outer_set A _ ir _ rfl
theorem vrow_step {vs : List VE} {n : Nat} (v : VE) (h : vs.length < n) : (rowsV vs ++ List.replicate (n - vs.length) [AV.nili]).set vs.length (ifE v :: List.drop 1 ((rowsV vs ++ List.replicate (n - vs.length) [AV.nili]).getD vs.length [])) = rowsV (vs ++ [v]) ++ List.replicate (n - (vs.length + 1)) [AV.nili]:=by
  obtain ⟨m,rfl⟩ : ∃ m,n = vs.length + (m + 1):=⟨n - vs.length - 1,by omega⟩
  have e1 : vs.length + (m + 1) - vs.length = m + 1:=by omega
  have e2 : vs.length + (m + 1) - (vs.length + 1) = m:=by omega
  rw [e1,e2,List.replicate_succ]
  have hl:=rowsV_length vs
  rw [Abs.getD_append_right (by omega),List.set_append_right _ _ (by omega),hl]
  simp [rowsV]
noncomputable def eachX (ks : List Ex) (most d c : Int) : Option (List VE) × Int:=if most < ks.length then (none,c) else readXs ks d c
def outX : Option (List VE) → AV
  | none=>.tuple [.slice [],.bool false]
  | some vs=>.tuple [.slice (rowsV vs),.bool true]
set_option maxRecDepth 100000 in
set_option maxHeartbeats 1000000 in
theorem impl_readEachX (ks : List Ex) (hks : ks.length ≤ 1048576) (hk : ∀ x ∈ ks,NodeX x) (most : Int) (ir jr jd : Nat) (c d : Int) (A : List Box) (h : RdSt ir jr jd c d A) (h0 : 0 ≤ c) (h1 : c ≤ 400) (h2 : 0 ≤ d) (h3 : d ≤ 40) :
    ACalls Tryz.prog 277 [.slice (encXs ks),.int .i64 most,.func (.func 279) [] [.ptr jr 0,.ptr jd 0]] A (fun r A'=>r = outX (eachX ks most (d + 1) c).1 ∧ A' = A.set ir (.cells [.int .i64 (eachX ks most (d + 1) c).2])):=by
  have hl:=encXs_length ks
  have hir:=h.lr
  have hfin : ∀ c',Outer A (A.set ir (.cells [.int .i64 c'])):=fun c'=>outer_set0 A ir _ rfl
  have hsm : A.set ir (.cells [.int .i64 c]) = A:=set_same hir h.gc
  by_cases hm : most < ks.length
  · have d1 : decide ((ks.length : Int) > most) = true:=decide_eq_true hm
    have d1' : decide (most < (ks.length : Int)) = true:=decide_eq_true hm
    rw [eachX,if_pos hm,hsm,outX]
    refine acalls_enter (cf:=cf 41 [0,1,2,6,7,8,9,10,11,12,16,20,21,22,23,34]) foll Tryz.func277 Tryz.ntmps277 (by simp [cf]) ?_
    simp only [Tryz.f277,EnterK_some,zW,zX,zD,builtinA,isLeaf,const1,ustrA,simprocAttr,ti3,ti37,ti39,ti122,ti335,cf,Tryz.results277]
    simp only [zW,zX,zD,builtinA,isLeaf,const1,ustrA,simprocAttr,ti3,ti37,ti39,ti122,ti335,cf,Tryz.results277,hl,d1,d1']
  · have d1 : decide ((ks.length : Int) > most) = false:=decide_eq_false hm
    have d1' : decide (most < (ks.length : Int)) = false:=decide_eq_false hm
    rw [eachX,if_neg hm]
    refine acalls_enter (cf:=cf 41 [0,1,2,6,7,8,9,10,11,12,16,20,21,22,23,34]) foll Tryz.func277 Tryz.ntmps277 (by simp [cf]) ?_
    simp only [Tryz.f277,EnterK_some,zW,zX,zD,builtinA,isLeaf,const1,ustrA,simprocAttr,ti3,ti37,ti39,ti122,ti335,cf,Tryz.results277]
    simp only [zW,zX,zD,builtinA,isLeaf,const1,ustrA,simprocAttr,ti3,ti37,ti39,ti122,ti335,cf,Tryz.results277,hl,d1,d1']
    refine ⟨⟨by omega,by omega,by omega⟩,?_⟩
    refine aloop_intro [2,8,20,21,22] (fun e A'=>∃ (i : Nat) (vs : List VE) (ci : Int) (B : List Box),i ≤ ks.length ∧ vs.length = i ∧ readXs (ks.take i) (d + 1) c = (some vs,ci) ∧ 0 ≤ ci ∧ ci ≤ 400 ∧ e = [(2,.func (.func 279) [] [.ptr jr 0,.ptr jd 0]),(8,.own A.length),(20,.slice (encXs ks)),(21,.int .i64 (ks.length : Nat)),(22,.int .i64 (i : Nat))]
      ∧ A' = A.set ir (.cells [.int .i64 ci]) ++ (.row 1 (rowsV vs ++ List.replicate (ks.length - i) [.nili]) 0 :: B)) (fun e _=>ks.length - (intOf (Abs.look 22 e)).toNat) ?_ ?_
    · refine ⟨0,[],c,[],by omega,rfl,by simp [readXs],h0,h1,rfl,?_⟩
      rw [hsm]
      simp [rowsV]
    · rintro e A' ⟨i,vs,ci,B,hi,hvl,hrd,hc0,hc1,rfl,rfl⟩
      by_cases hlt : i < ks.length
      · have d2 : decide ((i : Int) < ((ks.length : Nat) : Int)) = true:=decide_eq_true (by omega)
        have hg:=encXs_getD hlt
        have hmm:=ex_mem hlt
        have hstep:=readXs_step hlt hrd
        have hi1 : IntKind.i64.wrap ((i : Int) + 1) = ((i + 1 : Nat) : Int):=by rw [wrap64 (by omega) (by omega)]; rfl
        have hof:=readX_of (ks.getD i ex0) (d + 1) ci
        have hcl:=node_clos (ks.getD i ex0) (hk _ hmm) ir jr jd ci d _ ((h.set ci).app (.row 1 (rowsV vs ++ List.replicate (ks.length - i) [.nili]) 0 :: (B ++ [.cells (encX (ks.getD i ex0))]))) hc0 hc1 h2 h3
        have hv:=readX_val (ks.getD i ex0) (d + 1) ci
        generalize hx : ks.getD i ex0 = x at *
        generalize hq : readX x (d + 1) ci = q at *
        obtain ⟨⟨v,o⟩,c'⟩:=q
        simp only at hcl hstep hof hv
        rw [set_set_app hir] at hcl
        simp only [zW,zX,zD,builtinA,isLeaf,const1,ustrA,simprocAttr,ti3,ti37,ti39,ti122,ti335,cf,Tryz.results277,hl,d2,hg,encX_length,encX_take]
        refine ⟨⟨by omega,by omega⟩,?_⟩
        refine wpO_callv _ _ _ _ _ _ _ _ _ _ _ _ _ _ _ ?_
        simp only [zW,zX,zD,builtinA,isLeaf,const1,ustrA,simprocAttr,ti3,ti37,ti39,ti122,ti335,cf,Tryz.results277,List.nil_append]
        refine ⟨by kernel_rfl,?_⟩
        refine callK_intro (by simp only [zW,zX,zD,builtinA,isLeaf,const1,ustrA,simprocAttr,frzL_encX,Option.map_some,List.cons_append,List.nil_append] <;> rfl) (hcl) ?_ rfl
        rintro r A' ⟨rfl,rfl⟩
        cases o with
        | some u =>
          obtain ⟨a1,a2,a3,a4,a5⟩:=hof u hc0 rfl
          simp only [Prod.mk.injEq] at a5
          obtain ⟨⟨rfl,_⟩,rfl⟩:=a5
          have hst:=vrow_step (vs:=vs) (n:=ks.length) u (by omega)
          have hlen : (rowsV vs).length + (List.replicate (ks.length - i) [AV.nili]).length = ks.length:=by simp [rowsV_length]; omega
          subst hvl
          have hife : ifE u = .iface (vtE u) (vxE u):=rfl
          rw [hife] at hst ⊢
          simp only [zW,zX,zD,builtinA,isLeaf,const1,ustrA,simprocAttr,ti3,ti37,ti39,ti122,ti335,cf,Tryz.results277,hlen,rowsV_length,Option.isSome_some,Bool.not_true,hst,hi1,LoopK_eq]
          refine ⟨⟨by omega,by simp; omega⟩,⟨by omega,by simp; omega,fun v hv=>?_⟩,⟨vs.length + 1,vs ++ [u],ci + cntE u,_,by omega,by simp,hstep,by omega,by omega,rfl,rfl⟩,?_⟩
          · rw [List.mem_singleton.1 hv]
          · simp only [intOf]; omega
        | none =>
          have hall:=readXs_stop (by omega) hstep
          rw [hall,outX]
          rcases hv with rfl | ⟨T,y,rfl⟩
          · simp only [zW,zX,zD,builtinA,isLeaf,const1,ustrA,simprocAttr,ti3,ti37,ti39,ti122,ti335,cf,Tryz.results277,Option.isSome_none,Bool.not_false]
            exact outer_set A _ ir _ rfl
          · simp only [zW,zX,zD,builtinA,isLeaf,const1,ustrA,simprocAttr,ti3,ti37,ti39,ti122,ti335,cf,Tryz.results277,Option.isSome_none,Bool.not_false]
            exact outer_set A _ ir _ rfl
      · have d2 : decide ((i : Int) < ((ks.length : Nat) : Int)) = false:=decide_eq_false (by omega)
        have e : i = ks.length:=by omega
        subst hvl
        rw [e,List.take_length] at hrd
        have hz : List.replicate (ks.length - vs.length) [AV.nili] = []:=by rw [e]; simp
        rw [hrd,outX,hz,List.append_nil]
        simp only [zW,zX,zD,builtinA,isLeaf,const1,ustrA,simprocAttr,ti3,ti37,ti39,ti122,ti335,cf,Tryz.results277,hl,d2]
        exact outer_set A _ ir _ rfl
end Go.Proofs.YtnjdbgiincliaaaGreat
/- The program's reading of expressions: nodes. -/
set_option linter.unusedVariables false
set_option linter.unusedSimpArgs false
namespace Go.Proofs.YtnjdbgiincliaaaGreat
open Go.Abs
theorem skz_of {T : Ranks} {As : Nat → List Box} {k : Nat} (h : T.eff k = false) : SkZ T As k:=fun c _ _=>by simp [Ranks.next,h]
set_option maxRecDepth 100000 in
set_option maxHeartbeats 2000000 in
theorem impl_nodeX (k i : Int) (m n : List UInt8) (t : Ty) (ks : List Ex) (hks : ks.length ≤ 1048576) (hk : ∀ x ∈ ks,NodeX x) : NodeX (.mk k i m n t ks):=by
  intro ir c d A hir hgc h0 h1 h2 h3
  have hfin : ∀ c' L,Outer A (A.set ir (.cells [.int .i64 c']) ++ L):=fun c' L=>outer_set A L ir _ rfl
  have hen:=impl_enter ir c d (A ++ [.cells [.ptr ir 0],.cells (encX (.mk k i m n t ks)),.cells [.int .i64 d]]) (by simp; omega) (by rw [Abs.getD_append_left hir]; exact hgc) h0 (by omega)
  rw [set_app hir] at hen
  rw [encX] at hen ⊢
  rw [readX]
  generalize hg : (decide (c + 1 ≤ 400) && decide (d ≤ 40)) = g at *
  refine acalls_enter (cf:=cf 46 [0,1,2,3,4,5,6,7,8,9,20,40]) foll Tryz.func227 Tryz.ntmps227 (by simp [cf]) ?_
  simp only [Tryz.f227,EnterK_some,zW,zX,zD,builtinA,isLeaf,const1,ustrA,simprocAttr,ti3,ti37,ti39,ti122,ti329,ti335,ti398,ca275,ca276,ca277,ca278,ca280,cf,Tryz.results227]
  refine .inr (drawE_intro [(false,0,0),(false,0,0),(false,0,0),(false,0,0),(true,0,0),(false,1,1),(false,1,1),(false,1,1),(false,1,1),(false,1,1),(false,1,1)] [A ++ [.cells [.ptr ir 0],.cells [.int .i64 k,.int .i64 i,.str m,.str n,.int .i64 t.kind,.str t.mod,.str t.name,.slice (encs t.kids),.slice (encXs ks)],.cells [.int .i64 d]],A.set ir (.cells [.int .i64 (c + 1)]) ++ [.cells [.ptr ir 0],.cells [.int .i64 k,.int .i64 i,.str m,.str n,.int .i64 t.kind,.str t.mod,.str t.name,.slice (encs t.kids),.slice (encXs ks)],.cells [.int .i64 d]]] 1 rfl (by kernel_rfl) (by kernel_rfl) (by kernel_rfl) (by kernel_rfl) (by kernel_rfl) (by kernel_rfl) ?_)
  simp only [zW,zX,zD,builtinA,isLeaf,const1,ustrA,simprocAttr,ti3,ti37,ti39,ti122,ti329,ti335,ti398,ca275,ca276,ca277,ca278,ca280,cf,Tryz.results227]
  refine callE_intro (by simp only [zW,zX,zD,builtinA,isLeaf,const1,ustrA,simprocAttr] <;> rfl) hen ?_ rfl rfl
  cases g with
  | false =>
    rw [if_pos (by simp)]
    simp only [zW,zX,zD,builtinA,isLeaf,const1,ustrA,simprocAttr,ti3,ti37,ti39,ti122,ti329,ti335,ti398,ca275,ca276,ca277,ca278,ca280,cf,Tryz.results227]
    exact ⟨skz_of rfl,skz_of rfl,skz_of rfl,hfin _ _⟩
  | true =>
    simp only [Bool.and_eq_true,decide_eq_true_eq] at hg
    simp only [zW,zX,zD,builtinA,isLeaf,const1,ustrA,simprocAttr,ti3,ti37,ti39,ti122,ti329,ti335,ti398,ca275,ca276,ca277,ca278,ca280,cf,Tryz.results227]
    refine callEN_intro (fun A=>by simp only [zW,zX,zD,builtinA,isLeaf,const1,ustrA,simprocAttr,Option.map_some] <;> rfl) (fun A=>impl_unusedAreZero k i m n t _ A) ?_ rfl rfl
    cases hz : zeroX k i m n t with
    | false =>
      rw [if_pos (by simp)]
      simp only [zW,zX,zD,builtinA,isLeaf,const1,ustrA,simprocAttr,ti3,ti37,ti39,ti122,ti329,ti335,ti398,ca275,ca276,ca277,ca278,ca280,cf,Tryz.results227]
      exact hfin _ _
    | true =>
      rw [if_neg (by simp)]
      have hfe : (if opc k < ks.length then (((AV.nili,none),c + 1) : (AV × Option VE) × Int) else fin k i m n t (readXs ks (d + 1) (c + 1))) = fin k i m n t (eachX ks (opc k) (d + 1) (c + 1)):=by
        unfold eachX
        split <;> rfl
      rw [hfe]
      have hrd : RdSt ir A.length (A.length + 2) (c + 1) d (A.set ir (.cells [.int .i64 (c + 1)]) ++ [.cells [.ptr ir 0],.cells [.int .i64 k,.int .i64 i,.str m,.str n,.int .i64 t.kind,.str t.mod,.str t.name,.slice (encs t.kids),.slice (encXs ks)],.cells [.int .i64 d]]):=by
        refine ⟨by simp; omega,by simp,by simp,by omega,by omega,?_,?_,?_⟩
        · rw [Abs.getD_append_left (by simpa)]; exact getD_set1 hir
        · rw [Abs.getD_append_right (by simp)]; simp
        · rw [Abs.getD_append_right (by simp)]; simp
      have hre:=impl_readEachX ks hks hk (opc k) ir A.length (A.length + 2) (c + 1) d _ hrd (by omega) hg.1 (by omega) hg.2
      generalize hq : eachX ks (opc k) (d + 1) (c + 1) = q at *
      obtain ⟨o,cc⟩:=q
      simp only at hre
      rw [set_set_app hir] at hre
      simp only [zW,zX,zD,builtinA,isLeaf,const1,ustrA,simprocAttr,ti3,ti37,ti39,ti122,ti329,ti335,ti398,ca275,ca276,ca277,ca278,ca280,cf,Tryz.results227]
      refine .inr (drawE_intro [(false,0,0),(false,0,0),(false,0,0),(false,0,0),(false,0,0),(false,0,0),(true,0,0),(false,1,1),(false,1,1),(false,1,1),(false,1,1),(false,1,1)] [A.set ir (.cells [.int .i64 (c + 1)]) ++ [.cells [.ptr ir 0],.cells [.int .i64 k,.int .i64 i,.str m,.str n,.int .i64 t.kind,.str t.mod,.str t.name,.slice (encs t.kids),.slice (encXs ks)],.cells [.int .i64 d]],A.set ir (.cells [.int .i64 cc]) ++ [.cells [.ptr ir 0],.cells [.int .i64 k,.int .i64 i,.str m,.str n,.int .i64 t.kind,.str t.mod,.str t.name,.slice (encs t.kids),.slice (encXs ks)],.cells [.int .i64 d]]] 1 rfl (by kernel_rfl) (by kernel_rfl) (by kernel_rfl) (by kernel_rfl) (by kernel_rfl) (by kernel_rfl) ?_)
      simp only [zW,zX,zD,builtinA,isLeaf,const1,ustrA,simprocAttr,ti3,ti37,ti39,ti122,ti329,ti335,ti398,ca275,ca276,ca277,ca278,ca280,cf,Tryz.results227,wpG_makeFunc]
      refine callEN_intro (fun A=>by simp only [zW,zX,zD,builtinA,isLeaf,const1,ustrA,simprocAttr,Option.map_some] <;> rfl) (fun A=>impl_operandCount k A) ?_ rfl rfl
      simp only [zW,zX,zD,builtinA,isLeaf,const1,ustrA,simprocAttr,ti3,ti37,ti39,ti122,ti329,ti335,ti398,ca275,ca276,ca277,ca278,ca280,cf,Tryz.results227,wpG_makeFunc,List.cons_append,List.nil_append,List.map_cons,List.map_nil]
      refine callEO_intro hre ?_ rfl
      cases o with
      | none =>
        simp only [zW,zX,zD,builtinA,isLeaf,const1,ustrA,simprocAttr,ti3,ti37,ti39,ti122,ti329,ti335,ti398,ca275,ca276,ca277,ca278,ca280,cf,Tryz.results227,outX,fin]
        exact hfin _ _
      | some vs =>
        have hlv:=rowsV_length vs
        simp only [zW,zX,zD,builtinA,isLeaf,const1,ustrA,simprocAttr,ti3,ti37,ti39,ti122,ti329,ti335,ti398,ca275,ca276,ca277,ca278,ca280,cf,Tryz.results227,outX,fin,hlv]
        refine callK_intro (by simp only [zW,zX,zD,builtinA,isLeaf,const1,ustrA,simprocAttr,Option.map_some] <;> rfl) (impl_operandCount k _) ?_ rfl
        rintro r A' ⟨rfl,rfl⟩
        by_cases he : (vs.length : Int) = opc k
        · have hrh:=fun A=>impl_readHead k i m n t (encXs ks) vs he A
          have hv:=headX_val k i m n t vs
          rw [if_pos he]
          generalize hqq : headX k i m n t vs = qq at *
          obtain ⟨v,o⟩:=qq
          simp only at hv hrh ⊢
          simp only [zW,zX,zD,builtinA,isLeaf,const1,ustrA,simprocAttr,ti3,ti37,ti39,ti122,ti329,ti335,ti398,ca275,ca276,ca277,ca278,ca280,cf,Tryz.results227,decide_eq_true he,hlv]
          refine callK_intro (by simp only [zW,zX,zD,builtinA,isLeaf,const1,ustrA,simprocAttr,Option.map_some] <;> rfl) (hrh _) ?_ rfl
          rintro r A' ⟨rfl,rfl⟩
          rcases hv with rfl | ⟨T,y,rfl⟩
          · simp only [zW,zX,zD,builtinA,isLeaf,const1,ustrA,simprocAttr,ti3,ti37,ti39,ti122,ti329,ti335,ti398,ca275,ca276,ca277,ca278,ca280,cf,Tryz.results227]
            exact hfin _ _
          · simp only [zW,zX,zD,builtinA,isLeaf,const1,ustrA,simprocAttr,ti3,ti37,ti39,ti122,ti329,ti335,ti398,ca275,ca276,ca277,ca278,ca280,cf,Tryz.results227]
            exact hfin _ _
        · rw [if_neg he]
          simp only [zW,zX,zD,builtinA,isLeaf,const1,ustrA,simprocAttr,ti3,ti37,ti39,ti122,ti329,ti335,ti398,ca275,ca276,ca277,ca278,ca280,cf,Tryz.results227,decide_eq_false he,hlv]
          exact hfin _ _
theorem nodeX (x : Ex) (hx : szX x ≤ 1048576) : NodeX x:=by
  induction x using Ex.ind with
  | h k i m n t ks ih =>
    rw [szX] at hx
    exact impl_nodeX k i m n t ks (by omega) fun y hy=>ih y hy (by have:=szXs_mem hy; omega)
set_option maxRecDepth 100000 in
theorem impl_readExpr2 (x : Ex) (hx : szX x ≤ 1048576) (A : List Box) :
    ACalls Tryz.prog 143 [.agg (encX x)] A (fun r A'=>((∃ v,x = toX v ∧ EOk v ∧ r = .tuple [ifE v,.bool true]) ∨ (validX x = false ∧ ∃ w,(w = .nili ∨ ∃ T y,w = .iface T y) ∧ r = .tuple [w,.bool false])) ∧ A' = A):=by
  have hn:=nodeX x hx (A.length + 1) 0 1 (A ++ [.cells (encX x),.cells [.int .i64 0]]) (by simp) (by rw [Abs.getD_append_right (by simp)]; simp) (by omega) (by omega) (by omega) (by omega)
  have hv:=readX_val x 1 0
  have hof:=readX_of x 1 0
  have hbad : (readX x 1 0).1.2 = none → validX x = false:=fun h=>by
    rcases validX_cases x with ⟨u,hxu,hu⟩ | h'
    · rw [hxu,readX_toX u 1 0 hu.ok (by have:=hu.dep; omega) (by omega) (by have:=hu.cnt; omega)] at h; cases h
    · exact h'
  have hset : ∀ Y,(A ++ [Box.cells (encX x),.cells [.int .i64 0]]).set (A.length + 1) Y = A ++ [.cells (encX x),Y]:=fun Y=>by
    rw [List.set_append_right _ _ (by omega)]; simp
  rw [hset] at hn
  generalize hq : readX x 1 0 = q at *
  obtain ⟨⟨w,o⟩,c'⟩:=q
  simp only at hn hv hof hbad
  have fin : ((∃ v,x = toX v ∧ EOk v ∧ AV.tuple [w,.bool o.isSome] = .tuple [ifE v,.bool true]) ∨ (validX x = false ∧ ∃ w',(w' = .nili ∨ ∃ T y,w' = .iface T y) ∧ AV.tuple [w,.bool o.isSome] = .tuple [w',.bool false])):=by
    cases o with
    | none=>exact .inr ⟨hbad rfl,w,hv,rfl⟩
    | some v =>
      obtain ⟨a1,a2,a3,a4,a5⟩:=hof v (by omega) rfl
      simp only [Prod.mk.injEq] at a5
      exact .inl ⟨v,a1,⟨a2,by omega,by omega⟩,by rw [a5.1.1]; rfl⟩
  rcases hv with rfl | ⟨T,y,rfl⟩
  · refine acalls_enter (cf:=cf 10 [0,1,2,3,4]) foll Tryz.func143 Tryz.ntmps143 (by simp [cf]) ?_
    simp only [Tryz.f143,EnterK_some,zW,zX,zD,builtinA,isLeaf,const1,ustrA,simprocAttr,ti39,ti329,ca227,cf,Tryz.results143]
    simp only [zW,zX,zD,builtinA,isLeaf,const1,ustrA,simprocAttr,ti39,ti329,ca227,cf,Tryz.results143,encX_length,encX_take]
    refine callK_intro (by simp only [zW,zX,zD,builtinA,isLeaf,const1,ustrA,simprocAttr,frzL_encX,Option.map_some] <;> rfl) (hn) ?_ rfl
    rintro r A' ⟨rfl,rfl⟩
    simp only [zW,zX,zD,builtinA,isLeaf,const1,ustrA,simprocAttr,ti39,ti329,ca227,cf,Tryz.results143]
    exact fin
  · refine acalls_enter (cf:=cf 10 [0,1,2,3,4]) foll Tryz.func143 Tryz.ntmps143 (by simp [cf]) ?_
    simp only [Tryz.f143,EnterK_some,zW,zX,zD,builtinA,isLeaf,const1,ustrA,simprocAttr,ti39,ti329,ca227,cf,Tryz.results143]
    simp only [zW,zX,zD,builtinA,isLeaf,const1,ustrA,simprocAttr,ti39,ti329,ca227,cf,Tryz.results143,encX_length,encX_take]
    refine callK_intro (by simp only [zW,zX,zD,builtinA,isLeaf,const1,ustrA,simprocAttr,frzL_encX,Option.map_some] <;> rfl) (hn) ?_ rfl
    rintro r A' ⟨rfl,rfl⟩
    simp only [zW,zX,zD,builtinA,isLeaf,const1,ustrA,simprocAttr,ti39,ti329,ca227,cf,Tryz.results143]
    exact fin
theorem impl_readExpr (x : Ex) (hx : szX x ≤ 1048576) (A : List Box) :
    ACalls Tryz.prog 143 [.agg (encX x)] A (fun r A'=>((∃ v,x = toX v ∧ EOk v ∧ r = .tuple [ifE v,.bool true]) ∨ (validX x = false ∧ ∃ w,r = .tuple [w,.bool false])) ∧ A' = A) :=
  (impl_readExpr2 x hx A).mono fun r A' ⟨h,e⟩=>⟨h.imp id fun ⟨h1,w,_,h2⟩=>⟨h1,w,h2⟩,e⟩
set_option maxRecDepth 100000 in
theorem impl_ExprValid (x : Ex) (hx : szX x ≤ 1048576) (A : List Box) : ACalls Tryz.prog 67 [.agg (encX x)] A (fun r A'=>r = .bool (validX x) ∧ A' = A):=by
  refine acalls_enter (cf:=cf 11 [0,1,2,4]) foll Tryz.func67 Tryz.ntmps67 (by simp [cf]) ?_
  simp only [Tryz.f67,EnterK_some,zW,zX,zD,builtinA,isLeaf,const1,ustrA,simprocAttr,ti39,ca143,cf,Tryz.results67]
  simp only [zW,zX,zD,builtinA,isLeaf,const1,ustrA,simprocAttr,ti39,ca143,cf,Tryz.results67,encX_length,encX_take]
  refine callK_intro (by simp only [zW,zX,zD,builtinA,isLeaf,const1,ustrA,simprocAttr,frzL_encX,Option.map_some] <;> rfl) (impl_readExpr x hx _) ?_ rfl
  rintro r A' ⟨⟨v,rfl,hv,rfl⟩ | ⟨hv,w,rfl⟩,rfl⟩
  · rw [validX_toX hv]
    simp only [zW,zX,zD,builtinA,isLeaf,const1,ustrA,simprocAttr,ti39,ca143,cf,Tryz.results67]
  · rw [hv]
    simp only [zW,zX,zD,builtinA,isLeaf,const1,ustrA,simprocAttr,ti39,ca143,cf,Tryz.results67]
end Go.Proofs.YtnjdbgiincliaaaGreat
/- Valid expressions, node by node; the model's MaxFree. -/
set_option linter.unusedVariables false
set_option linter.unusedSimpArgs false
namespace Go.Proofs.YtnjdbgiincliaaaGreat
open Go.Abs
def kindE : VE → Int
  | .var _=>1
  | .num _=>2
  | .nm _ _=>3
  | .fn _ _=>4
  | .app _ _=>5
  | .add _ _=>6
  | .ite _ _ _=>7
def nE : VE → Int
  | .var i=>i
  | .num i=>i
  | _=>0
def modE : VE → List UInt8
  | .nm m _=>m
  | _=>[]
def nameE : VE → List UInt8
  | .nm _ n=>n
  | _=>[]
def argE : VE → Ty
  | .fn t _=>toTy t
  | _=>ty0
def kidsE : VE → List VE
  | .fn _ b=>[b]
  | .app a b=>[a,b]
  | .add a b=>[a,b]
  | .ite c a b=>[c,a,b]
  | _=>[]
theorem toX_node (v : VE) : toX v = .mk (kindE v) (nE v) (modE v) (nameE v) (argE v) ((kidsE v).map toX):=by
  cases v <;> simp [toX,kindE,nE,modE,nameE,argE,kidsE]
def rowsE (v : VE) : List (List AV):=encXs ((kidsE v).map toX)
theorem encX_node (v : VE) : encX (toX v) = [.int .i64 (kindE v),.int .i64 (nE v),.str (modE v),.str (nameE v),.int .i64 (argE v).kind,.str (argE v).mod,.str (argE v).name,.slice (encs (argE v).kids),.slice (rowsE v)]:=by
  rw [toX_node,encX,rowsE]
theorem rowsE_length (v : VE) : (rowsE v).length = (kidsE v).length:=by rw [rowsE,encXs_length]; simp
def ve0 : VE:=.num 0
theorem rowsE_getD {v : VE} {i : Nat} (h : i < (kidsE v).length) : (rowsE v).getD i [] = encX (toX ((kidsE v).getD i ve0)):=by
  rw [rowsE,encXs_getD (by simpa using h)]
  simp [List.getD,h]
theorem kid_mem {v : VE} {i : Nat} (h : i < (kidsE v).length) : (kidsE v).getD i ve0 ∈ kidsE v:=by simp [List.getD,h]
theorem kidsE_le (v : VE) : (kidsE v).length ≤ 3:=by cases v <;> simp [kidsE]
theorem VE.indK {M : VE → Prop} (h : ∀ v,(∀ k ∈ kidsE v,M k) → M v) : ∀ v,M v
  | .var i=>h _ (by simp [kidsE])
  | .num i=>h _ (by simp [kidsE])
  | .nm m n=>h _ (by simp [kidsE])
  | .fn t b=>h _ (by simp [kidsE]; exact VE.indK h b)
  | .app a b=>h _ (by simp [kidsE]; exact ⟨VE.indK h a,VE.indK h b⟩)
  | .add a b=>h _ (by simp [kidsE]; exact ⟨VE.indK h a,VE.indK h b⟩)
  | .ite c a b=>h _ (by simp [kidsE]; exact ⟨VE.indK h c,VE.indK h a,VE.indK h b⟩)
theorem depE_kid {v k : VE} (h : k ∈ kidsE v) : depE k + 1 ≤ depE v:=by
  cases v <;> simp [kidsE] at h
  · subst h; simp [depE]; omega
  · rcases h with rfl | rfl <;> simp [depE] <;> omega
  · rcases h with rfl | rfl <;> simp [depE] <;> omega
  · rcases h with rfl | rfl | rfl <;> simp [depE] <;> omega
theorem okE_kid {v k : VE} (ho : okE v) (h : k ∈ kidsE v) : okE k:=by
  cases v <;> simp [kidsE] at h
  · subst h; exact ho.2
  · rcases h with rfl | rfl
    · exact ho.1
    · exact ho.2
  · rcases h with rfl | rfl
    · exact ho.1
    · exact ho.2
  · rcases h with rfl | rfl | rfl
    · exact ho.1
    · exact ho.2.1
    · exact ho.2.2
def inE (v : VE) (d : Int) : Int:=if kindE v = 4 then d + 1 else d
end Go.Proofs.YtnjdbgiincliaaaGreat
