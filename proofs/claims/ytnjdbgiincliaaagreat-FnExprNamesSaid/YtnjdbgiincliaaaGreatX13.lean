/- DrawXD, DrawXM, OkSz, Jf. -/
import Derived.Test.YtnjdbgiincliaaaGreatX12
import Derived.Test.YtnjdbgiincliaaaGreatAbsW3
import Derived.Test.YtnjdbgiincliaaaGreatRows
/- Drawn expressions. -/
set_option linter.unusedVariables false
set_option linter.unusedSimpArgs false
namespace Go.Proofs.YtnjdbgiincliaaaGreat
open Go.Abs
def kidN (k : Int) : Nat:=if k = 4 then 1 else if k = 5 then 2 else if k = 6 then 2 else if k = 7 then 3 else 0
def kidC (k : Int) : Int:=if k = 1 then 0 else if k = 2 then 0 else if k = 3 then 0 else if k = 4 then 1 else if k = 5 then 2 else if k = 6 then 2 else if k = 7 then 3 else -1
set_option maxRecDepth 100000 in
theorem spec_l4KidsD (k : Int) (A : List Box) : ACalls Tryz.prog 242 [.int .i64 k] A (fun v A'=>v = .int .i64 (kidC k) ∧ A' = A):=by
  refine acalls_enter (cf:=cf 15 [0,2,3,4,8,10,13]) foll Tryz.func242 Tryz.ntmps242 (by simp [cf]) ?_
  simp only [Tryz.f242,EnterK_some,zW,zX,zD,builtinA,isLeaf,const1,ustrA,simprocAttr,ti3,cf,Tryz.results242]
  repeat' first
    | (refine guardT_intro (fun h=>?_) (fun h=>?_) <;> (try simp only [decide_eq_true_eq,decide_eq_false_iff_not,Bool.not_eq_eq_eq_not,Bool.not_true,Bool.not_false] at h) <;> simp only [zW,zX,zD,builtinA,isLeaf,const1,ustrA,simprocAttr,ti3,cf,Tryz.results242,h])
    | (refine guardF_intro (fun h=>?_) (fun h=>?_) <;> (try simp only [decide_eq_true_eq,decide_eq_false_iff_not,Bool.not_eq_eq_eq_not,Bool.not_true,Bool.not_false] at h) <;> simp only [zW,zX,zD,builtinA,isLeaf,const1,ustrA,simprocAttr,ti3,cf,Tryz.results242,h])
    | (refine condK_intro (fun h=>?_) (fun h=>?_) <;> (try simp only [decide_eq_true_eq,decide_eq_false_iff_not,Bool.not_eq_eq_eq_not,Bool.not_true,Bool.not_false] at h) <;> simp only [zW,zX,zD,builtinA,isLeaf,const1,ustrA,simprocAttr,ti3,cf,Tryz.results242,h])
    | (refine guardDT_intro (fun h=>?_) (fun h=>?_) <;> (try simp only [decide_eq_true_eq,decide_eq_false_iff_not,Bool.not_eq_eq_eq_not,Bool.not_true,Bool.not_false] at h) <;> simp only [zW,zX,zD,builtinA,isLeaf,const1,ustrA,simprocAttr,ti3,cf,Tryz.results242,h])
    | (refine guardDF_intro (fun h=>?_) (fun h=>?_) <;> (try simp only [decide_eq_true_eq,decide_eq_false_iff_not,Bool.not_eq_eq_eq_not,Bool.not_true,Bool.not_false] at h) <;> simp only [zW,zX,zD,builtinA,isLeaf,const1,ustrA,simprocAttr,ti3,cf,Tryz.results242,h])
    | refine And.intro ?_ ?_
  all_goals simp [kidC, *]
theorem szXs_mul {ks : List Ex} {b : Nat} (h : ∀ y ∈ ks,szX y ≤ b) : szXs ks ≤ ks.length * b:=by
  induction ks with
  | nil=>simp [szXs]
  | cons x l ih =>
    have h1:=h x (by simp)
    have h2:=ih fun y hy=>h y (by simp [hy])
    rw [szXs,List.length_cons,Nat.succ_mul]; omega
def ITD (A : List Box) : Prop:=True ∧ True
def DrC (bs : List UInt8) (n : Nat) : Prop:=∀ (d lev : Int) (p : Nat) (i : Nat) (A : List Box) (hi : i < A.length) (hA : A.getD i .dead = Rd bs p) (hn : lev ≤ n + 1) (hl : lev ≤ 10 ∧ -10 ≤ lev) (hd : 0 ≤ d ∧ d + n ≤ 1000) (hp : p + 4 ^ (n + 2) < 2 ^ 38),
    ACalls Tryz.prog 281 [.ptr i 0,.int .i64 d,.int .i64 lev] A (fun r A'=>∃ x p',r = .agg (encX x) ∧ szX x ≤ 4 ^ (n + 2) ∧ p ≤ p' ∧ p' ≤ p + 4 ^ (n + 2) ∧ A' = A.set i (Rd bs p'))
set_option maxRecDepth 100000 in
set_option maxHeartbeats 4000000 in
theorem spec_l4Draw_step (bs : List UInt8) (n : Nat) (ih : ∀ m,n = m + 1 → DrC bs m) : DrC bs n:=by
  intro d lev p i A hi hA hn hl hd hp
  have h16 : 16 ≤ 4 ^ (n + 2):=by have : 4 ^ 2 ≤ 4 ^ (n + 2):=Nat.pow_le_pow_right (by decide) (by omega); omega
  have hgA : ∀ X (B : List Box),(A.set i X ++ B).getD i .dead = X:=fun X B=>by rw [getD_app1 _ _ _ _ (by simpa using hi),getD_set1 hi]
  have hgA0 : ∀ (B : List Box),(A ++ B).getD i .dead = Rd bs p:=fun B=>by rw [getD_app1 _ _ _ _ hi]; exact hA
  refine acalls_enter (cf:=cf 67 [0,1,2,6,7,8,10,11,23,43,53]) foll Tryz.func281 Tryz.ntmps281 (by simp [cf]) ?_
  simp only [Tryz.f281,EnterK_some,zW,zX,zD,builtinA,isLeaf,const1,ustrA,simprocAttr,ti3,ti9,ti36,ti37,ti39,ti48,ti273,ca101,ca115,ca186,ca242,ca281,ca302,cf,Tryz.results281]
  by_cases h2 : lev < 2
  · have e1 : decide (lev < 2) = true:=decide_eq_true h2
    by_cases hd0 : d > 0
    · have e2 : decide (d > 0) = true:=decide_eq_true hd0
      have e2' : decide (0 < d) = true:=decide_eq_true hd0
      simp only [zW,zX,zD,builtinA,isLeaf,const1,ustrA,simprocAttr,ti3,ti9,ti36,ti37,ti39,ti48,ti273,ca101,ca115,ca186,ca242,ca281,ca302,cf,Tryz.results281,hi,e1,e2,e2']
      refine callK_intro (by simp only [zW,zX,zD,builtinA,isLeaf,const1,ustrA,simprocAttr]; rfl) (spec_pick bs p 2 i _ (by simp; omega) (hgA0 _) (by omega) (by omega)) ?_ rfl
      rintro v A' ⟨j1,rfl,k10,k11,rfl⟩
      by_cases k1 : j1 = 0
      · simp only [zW,zX,zD,builtinA,isLeaf,const1,ustrA,simprocAttr,ti3,ti9,ti36,ti37,ti39,ti48,ti273,ca101,ca115,ca186,ca242,ca281,ca302,cf,Tryz.results281,hi,decide_eq_true k1]
        refine callK_intro (by simp only [zW,zX,zD,builtinA,isLeaf,const1,ustrA,simprocAttr]; rfl) (spec_pick bs (p + 1) d i _ (by simp; omega) (hgA _ _) (by omega) (by omega)) ?_ rfl
        rintro v A' ⟨j2,rfl,k20,k21,rfl⟩
        simp only [zW,zX,zD,builtinA,isLeaf,const1,ustrA,simprocAttr,ti3,ti9,ti36,ti37,ti39,ti48,ti273,ca101,ca115,ca186,ca242,ca281,ca302,cf,Tryz.results281,hi]
        refine ⟨outer_set A _ i _ (rd_closed _ _ _),.mk 1 j2 [] [] ty0 [],p + 1 + 1,rfl,?_,by omega,by omega,rfl⟩
        simp only [szX,szXs,ty0,sz,szs,List.length_nil]; omega
      · simp only [zW,zX,zD,builtinA,isLeaf,const1,ustrA,simprocAttr,ti3,ti9,ti36,ti37,ti39,ti48,ti273,ca101,ca115,ca186,ca242,ca281,ca302,cf,Tryz.results281,hi,decide_eq_false k1]
        refine callK_intro (by simp only [zW,zX,zD,builtinA,isLeaf,const1,ustrA,simprocAttr]; rfl) (spec_pick bs (p + 1) 3 i _ (by simp; omega) (hgA _ _) (by omega) (by omega)) ?_ rfl
        rintro v A' ⟨j2,rfl,k20,k21,rfl⟩
        by_cases k2 : j2 = 0
        · simp only [zW,zX,zD,builtinA,isLeaf,const1,ustrA,simprocAttr,ti3,ti9,ti36,ti37,ti39,ti48,ti273,ca101,ca115,ca186,ca242,ca281,ca302,cf,Tryz.results281,hi,decide_eq_true k2]
          refine ⟨by simp,?_⟩
          refine callK_intro (by simp only [zW,zX,zD,builtinA,isLeaf,const1,ustrA,simprocAttr]; rfl) (spec_of bs ((p + 1) + 1) [[65],[],[66]] i _ (by simp; omega) (hgA _ _) (by omega) (by simp)) ?_ rfl
          rintro v A' ⟨m,rfl,hm,rfl⟩
          simp only [zW,zX,zD,builtinA,isLeaf,const1,ustrA,simprocAttr,ti3,ti9,ti36,ti37,ti39,ti48,ti273,ca101,ca115,ca186,ca242,ca281,ca302,cf,Tryz.results281,hi]
          refine ⟨by simp,?_⟩
          refine callK_intro (by simp only [zW,zX,zD,builtinA,isLeaf,const1,ustrA,simprocAttr]; rfl) (spec_of bs ((p + 1) + 1 + 1) [[120],[102]] i _ (by simp; omega) (hgA _ _) (by omega) (by simp)) ?_ rfl
          rintro v A' ⟨s,rfl,hs,rfl⟩
          simp only [zW,zX,zD,builtinA,isLeaf,const1,ustrA,simprocAttr,ti3,ti9,ti36,ti37,ti39,ti48,ti273,ca101,ca115,ca186,ca242,ca281,ca302,cf,Tryz.results281,hi]
          refine ⟨outer_set A _ i _ (rd_closed _ _ _),.mk 3 0 m s ty0 [],(p + 1) + 1 + 1 + 1,rfl,?_,by omega,by omega,rfl⟩
          have hml : m.length ≤ 1:=by simp at hm; rcases hm with rfl | rfl | rfl <;> simp
          have hsl : s.length ≤ 1:=by simp at hs; rcases hs with rfl | rfl <;> simp
          simp only [szX,szXs,ty0,sz,szs,List.length_nil]; omega
        · simp only [zW,zX,zD,builtinA,isLeaf,const1,ustrA,simprocAttr,ti3,ti9,ti36,ti37,ti39,ti48,ti273,ca101,ca115,ca186,ca242,ca281,ca302,cf,Tryz.results281,hi,decide_eq_false k2]
          refine callK_intro (by simp only [zW,zX,zD,builtinA,isLeaf,const1,ustrA,simprocAttr]; rfl) (spec_pick bs ((p + 1) + 1) 5 i _ (by simp; omega) (hgA _ _) (by omega) (by omega)) ?_ rfl
          rintro v A' ⟨j3,rfl,k30,k31,rfl⟩
          simp only [zW,zX,zD,builtinA,isLeaf,const1,ustrA,simprocAttr,ti3,ti9,ti36,ti37,ti39,ti48,ti273,ca101,ca115,ca186,ca242,ca281,ca302,cf,Tryz.results281,hi]
          refine ⟨outer_set A _ i _ (rd_closed _ _ _),.mk 2 j3 [] [] ty0 [],(p + 1) + 1 + 1,rfl,?_,by omega,by omega,rfl⟩
          simp only [szX,szXs,ty0,sz,szs,List.length_nil]; omega
    · have e2 : decide (d > 0) = false:=decide_eq_false hd0
      have e2' : decide (0 < d) = false:=decide_eq_false hd0
      simp only [zW,zX,zD,builtinA,isLeaf,const1,ustrA,simprocAttr,ti3,ti9,ti36,ti37,ti39,ti48,ti273,ca101,ca115,ca186,ca242,ca281,ca302,cf,Tryz.results281,hi,e1,e2,e2']
      refine callK_intro (by simp only [zW,zX,zD,builtinA,isLeaf,const1,ustrA,simprocAttr]; rfl) (spec_pick bs p 3 i _ (by simp; omega) (hgA0 _) (by omega) (by omega)) ?_ rfl
      rintro v A' ⟨j2,rfl,k20,k21,rfl⟩
      by_cases k2 : j2 = 0
      · simp only [zW,zX,zD,builtinA,isLeaf,const1,ustrA,simprocAttr,ti3,ti9,ti36,ti37,ti39,ti48,ti273,ca101,ca115,ca186,ca242,ca281,ca302,cf,Tryz.results281,hi,decide_eq_true k2]
        refine ⟨by simp,?_⟩
        refine callK_intro (by simp only [zW,zX,zD,builtinA,isLeaf,const1,ustrA,simprocAttr]; rfl) (spec_of bs (p + 1) [[65],[],[66]] i _ (by simp; omega) (hgA _ _) (by omega) (by simp)) ?_ rfl
        rintro v A' ⟨m,rfl,hm,rfl⟩
        simp only [zW,zX,zD,builtinA,isLeaf,const1,ustrA,simprocAttr,ti3,ti9,ti36,ti37,ti39,ti48,ti273,ca101,ca115,ca186,ca242,ca281,ca302,cf,Tryz.results281,hi]
        refine ⟨by simp,?_⟩
        refine callK_intro (by simp only [zW,zX,zD,builtinA,isLeaf,const1,ustrA,simprocAttr]; rfl) (spec_of bs (p + 1 + 1) [[120],[102]] i _ (by simp; omega) (hgA _ _) (by omega) (by simp)) ?_ rfl
        rintro v A' ⟨s,rfl,hs,rfl⟩
        simp only [zW,zX,zD,builtinA,isLeaf,const1,ustrA,simprocAttr,ti3,ti9,ti36,ti37,ti39,ti48,ti273,ca101,ca115,ca186,ca242,ca281,ca302,cf,Tryz.results281,hi]
        refine ⟨outer_set A _ i _ (rd_closed _ _ _),.mk 3 0 m s ty0 [],p + 1 + 1 + 1,rfl,?_,by omega,by omega,rfl⟩
        have hml : m.length ≤ 1:=by simp at hm; rcases hm with rfl | rfl | rfl <;> simp
        have hsl : s.length ≤ 1:=by simp at hs; rcases hs with rfl | rfl <;> simp
        simp only [szX,szXs,ty0,sz,szs,List.length_nil]; omega
      · simp only [zW,zX,zD,builtinA,isLeaf,const1,ustrA,simprocAttr,ti3,ti9,ti36,ti37,ti39,ti48,ti273,ca101,ca115,ca186,ca242,ca281,ca302,cf,Tryz.results281,hi,decide_eq_false k2]
        refine callK_intro (by simp only [zW,zX,zD,builtinA,isLeaf,const1,ustrA,simprocAttr]; rfl) (spec_pick bs (p + 1) 5 i _ (by simp; omega) (hgA _ _) (by omega) (by omega)) ?_ rfl
        rintro v A' ⟨j3,rfl,k30,k31,rfl⟩
        simp only [zW,zX,zD,builtinA,isLeaf,const1,ustrA,simprocAttr,ti3,ti9,ti36,ti37,ti39,ti48,ti273,ca101,ca115,ca186,ca242,ca281,ca302,cf,Tryz.results281,hi]
        refine ⟨outer_set A _ i _ (rd_closed _ _ _),.mk 2 j3 [] [] ty0 [],p + 1 + 1,rfl,?_,by omega,by omega,rfl⟩
        simp only [szX,szXs,ty0,sz,szs,List.length_nil]; omega
  · have e1 : decide (lev < 2) = false:=decide_eq_false h2
    obtain ⟨n1,rfl⟩ : ∃ m,n = m + 1:=⟨n - 1,by omega⟩
    have h4p : 4 ^ (n1 + 1 + 2) = 4 * 4 ^ (n1 + 2):=by rw [Nat.pow_add 4 (n1 + 1) 2,Nat.pow_add 4 n1 2,Nat.pow_succ]; omega
    have h4q : 16 ≤ 4 ^ (n1 + 2):=by have : 4 ^ 2 ≤ 4 ^ (n1 + 2):=Nat.pow_le_pow_right (by decide) (by omega); omega
    have hw : IntKind.i64.wrap (lev - 1) = lev - 1:=wrap64 (by omega) (by omega)
    simp only [zW,zX,zD,builtinA,isLeaf,const1,ustrA,simprocAttr,ti3,ti9,ti36,ti37,ti39,ti48,ti273,ca101,ca115,ca186,ca242,ca281,ca302,cf,Tryz.results281,hi,e1]
    refine ⟨by simp,?_⟩
    refine callK_intro (by simp only [zW,zX,zD,builtinA,isLeaf,const1,ustrA,simprocAttr]; rfl) (spec_num bs p [5,6,4,7,5] i _ (by simp; omega) (hgA0 _) (by omega) (by simp)) ?_ rfl
    rintro v A' ⟨s,rfl,hs,rfl⟩
    have hs4 : s = 4 ∨ s = 5 ∨ s = 6 ∨ s = 7:=by simp at hs; omega
    have hkc : kidC s = (kidN s : Nat):=by rcases hs4 with rfl | rfl | rfl | rfl <;> rfl
    have w1 : IntKind.i64.wrap 1 = 1:=wrap64 (by omega) (by omega)
    have hk0 : kidN s ≠ 0:=by rcases hs4 with rfl | rfl | rfl | rfl <;> decide
    have hkn : kidN s ≤ 3:=by rcases hs4 with rfl | rfl | rfl | rfl <;> decide
    simp only [zW,zX,zD,builtinA,isLeaf,const1,ustrA,simprocAttr,ti3,ti9,ti36,ti37,ti39,ti48,ti273,ca101,ca115,ca186,ca242,ca281,ca302,cf,Tryz.results281,hi]
    by_cases k4 : s = 4
    · simp only [zW,zX,zD,builtinA,isLeaf,const1,ustrA,simprocAttr,ti3,ti9,ti36,ti37,ti39,ti48,ti273,ca101,ca115,ca186,ca242,ca281,ca302,cf,Tryz.results281,hi,decide_eq_true k4]
      refine callK_intro (by simp only [zW,zX,zD,builtinA,isLeaf,const1,ustrA,simprocAttr]; rfl) (spec_l1Draw bs 1 2 (p + 1) i _ (by simp; omega) (hgA _ _) (by omega) (by omega) (by omega)) ?_ rfl
      rintro v A' ⟨vt,p0,rfl,hvt,hdt,hp01,hp02,rfl⟩
      have hzt0 : sz (toTy vt) ≤ 6:=by
        have h1:=sz_toTy vt hvt
        have h2:=cnt_lt (show dep vt ≤ 2 by omega)
        omega
      have hwd : IntKind.i64.wrap (d + 1) = d + 1:=wrap64 (by omega) (by omega)
      generalize toTy vt = t at *
      rw [encT4]
      simp only [zW,zX,zD,builtinA,isLeaf,const1,ustrA,simprocAttr,ti3,ti9,ti36,ti37,ti39,ti48,ti273,ca101,ca115,ca186,ca242,ca281,ca302,cf,Tryz.results281,hi,hwd]
      refine aloop_intro [0,1,2,6,7,8] (fun e A'=>∃ q ks p' B x,q ≤ kidN s ∧ ks.length = q ∧ (∀ y ∈ ks,szX y ≤ 4 ^ (n1 + 2)) ∧ p0 ≤ p' ∧ p' ≤ p0 + q * 4 ^ (n1 + 2) ∧ e = [(0,.ptr i 0),(1,.int .i64 (d + 1)),(2,.int .i64 lev),(6,.ptr A.length 0),(7,.ptr (A.length + 2) 0),(8,.int .i64 (q : Nat))] ∧ A' = A.set i (Rd bs p') ++ (.cells [.int .i64 0,.int .i64 0,.str [],.str [],.int .i64 0,.str [],.str [],.nils,.nils] :: .row 1 [[.int .i64 5],[.int .i64 6],[.int .i64 4],[.int .i64 7],[.int .i64 5]] 5 :: .cells [.int .i64 s,.int .i64 0,.str [],.str [],.int .i64 t.kind,.str t.mod,.str t.name,.slice (encs t.kids),x] :: B) ∧
        ((q = 0 ∧ x = .nils ∧ B = []) ∨ (∃ j,x = .own (A.length + (j + 3)) ∧ j < B.length ∧ B.getD j .dead = .row 9 (encXs ks) 0))) (fun e _=>kidN s - (intOf (Abs.look 8 e)).toNat) ?_ ?_
      · simp only [zW,zX,zD,builtinA,isLeaf,const1,ustrA,simprocAttr,ti3,ti9,ti36,ti37,ti39,ti48,ti273,ca101,ca115,ca186,ca242,ca281,ca302,cf,Tryz.results281]
        exact ⟨0,[],_,[],.nils,by omega,rfl,by simp,Nat.le_refl _,by omega,rfl,rfl,.inl ⟨rfl,rfl,rfl⟩⟩
      · rintro e A' ⟨q,ks,p',B,x,hq,hkl,hks,hp1,hp2,rfl,rfl,hx⟩
        simp only [zW,zX,zD,builtinA,isLeaf,const1,ustrA,simprocAttr,ti3,ti9,ti36,ti37,ti39,ti48,ti273,ca101,ca115,ca186,ca242,ca281,ca302,cf,Tryz.results281,hi]
        refine callK_intro (by simp only [zW,zX,zD,builtinA,isLeaf,const1,ustrA,simprocAttr]; rfl) (spec_l4KidsD s _) ?_ rfl; rintro v A' ⟨rfl,rfl⟩
        rw [hkc]
        simp only [zW,zX,zD,builtinA,isLeaf,const1,ustrA,simprocAttr,ti3,ti9,ti36,ti37,ti39,ti48,ti273,ca101,ca115,ca186,ca242,ca281,ca302,cf,Tryz.results281,hi]
        refine condK_intro (fun h2=>?_) (fun h2=>?_)
        · have hq2 : q < kidN s:=by simpa using h2
          have hi1 : IntKind.i64.wrap ((q : Int) + 1) = ((q + 1 : Nat) : Int):=by rw [wrap64 (by omega) (by omega)]; rfl
          have hqm : q * 4 ^ (n1 + 2) ≤ 2 * 4 ^ (n1 + 2):=Nat.mul_le_mul_right _ (by omega)
          rcases hx with ⟨rfl,rfl,rfl⟩ | ⟨j,rfl,hj,hg⟩
          · refine .inr (drawI_intro (.pur 0 (.pur 2 (.pur 3 (.pur 4 (.pur 5 (.or 1 (.or 6 (.or 7 (.or 8 (.pur 9 (.or 10 .done .stop)) .stop) .stop) .stop) (.or 6 (.or 1 (.or 7 (.or 8 (.pur 9 (.or 10 .done .stop)) .stop) .stop) (.or 7 (.or 1 (.or 8 (.pur 9 (.or 10 .done .stop)) .stop) .stop) .stop)) .stop))))))) (ITD) (by kernel_rfl) ?_ ?_)
            · exact ⟨trivial,trivial⟩
            iterate 5 (refine wpI_pur_intro (v:=?_) _ rfl rfl (by decide) rfl (fun A' hI=>?_) ?_; rotate_left 1; (simp only [zW,zX,zD,builtinA,isLeaf,const1,ustrA,simprocAttr,ti3,ti9,ti36,ti37,ti39,ti48,ti273,ca101,ca115,ca186,ca242,ca281,ca302,cf,Tryz.results281,hI.1,hI.2,hi]; first | exact rfl | exact ⟨rfl,rfl⟩ | (refine ⟨by omega,?_⟩; exact rfl) | (refine ⟨⟨by omega,by omega⟩,?_⟩; exact rfl)))
            simp only [zW,zX,zD,builtinA,isLeaf,const1,ustrA,simprocAttr,ti3,ti9,ti36,ti37,ti39,ti48,ti273,ca101,ca115,ca186,ca242,ca281,ca302,cf,Tryz.results281,hi,hw,wpI_or_eq,wpI_stop_eq,wpI_done_eq]
            refine ⟨⟨⟨trivial,trivial⟩,?_⟩,?_⟩
            all_goals refine callK_intro (by first | rfl | (simp only [zW,zX,zD,builtinA,isLeaf,const1,ustrA,simprocAttr]; rfl)) (ih n1 rfl ((d + 1)) (lev - 1) p' i _ (by simp; omega) (hgA _ _) (by omega) (by omega) (by omega) (by omega)) ?_ rfl
            all_goals rintro _ _ ⟨y,p2,rfl,hz,hq1,hq2,rfl⟩
            all_goals have hks' : ∀ z ∈ ks ++ [y],szX z ≤ 4 ^ (n1 + 2):=(fun z hz'=>by rcases List.mem_append.1 hz' with h | h; exact hks z h; rw [List.mem_singleton.1 h]; exact hz)
            all_goals simp only [zW,zX,zD,builtinA,isLeaf,const1,ustrA,simprocAttr,ti3,ti9,ti36,ti37,ti39,ti48,ti273,ca101,ca115,ca186,ca242,ca281,ca302,cf,Tryz.results281,hi,encX_length,encX_take,encX_drop,frzL_encX,encX_closed,wpI_or_eq,wpI_stop_eq,wpI_done_eq]
            all_goals repeat' with_reducible refine And.intro ?_ ?_
            all_goals first | exact (⟨trivial,trivial⟩ : ITD _) | exact fun v hv=>encX_leaf _ v hv | exact (fun r hr=>by rw [List.mem_singleton.1 hr,encX_length]) | (rw [encXs_length]; omega) | skip
            all_goals (refine wpI_pur_intro (v:=?_) _ rfl rfl (by decide) rfl (fun A' hI=>?_) ?_; rotate_left 1; (simp only [zW,zX,zD,builtinA,isLeaf,const1,ustrA,simprocAttr,ti3,ti9,ti36,ti37,ti39,ti48,ti273,ca101,ca115,ca186,ca242,ca281,ca302,cf,Tryz.results281,hI.1,hI.2,hi]; first | exact rfl | exact ⟨rfl,rfl⟩ | (refine ⟨by omega,?_⟩; exact rfl) | (refine ⟨⟨by omega,by omega⟩,?_⟩; exact rfl)))
            all_goals simp only [zW,zX,zD,builtinA,isLeaf,const1,ustrA,simprocAttr,ti3,ti9,ti36,ti37,ti39,ti48,ti273,ca101,ca115,ca186,ca242,ca281,ca302,cf,Tryz.results281,hi,hi1,w1,LoopK_eq,wpI_or_eq,wpI_stop_eq,wpI_done_eq]
            all_goals obtain rfl : ks = []:=List.length_eq_zero_iff.1 hkl
            all_goals refine ⟨⟨trivial,trivial⟩,⟨0 + 1,[y],p2,_,_,by omega,rfl,hks',by omega,by omega,rfl,rfl,.inr ⟨1,rfl,by simp,by simp [encXs]⟩⟩,?_⟩
            all_goals (simp only [intOf]; omega)
          · have hgX : ∀ Y,(B ++ Y).getD j .dead = .row 9 (encXs ks) 0:=fun Y=>by rw [Abs.getD_append_left hj]; exact hg
            have hsX : ∀ Y : List Box,(B ++ Y).set j .dead = B.set j .dead ++ Y:=fun Y=>by rw [List.set_append_left _ _ hj]
            have hjX : ∀ n,j < B.length + n:=fun n=>by omega
            refine .inr (drawI_intro (.pur 0 (.pur 2 (.pur 3 (.pur 4 (.pur 5 (.or 1 (.or 6 (.or 7 (.or 8 (.pur 9 (.or 10 .done .stop)) .stop) .stop) .stop) (.or 6 (.or 1 (.or 7 (.or 8 (.pur 9 (.or 10 .done .stop)) .stop) .stop) (.or 7 (.or 1 (.or 8 (.pur 9 (.or 10 .done .stop)) .stop) .stop) .stop)) .stop))))))) (ITD) (by kernel_rfl) ?_ ?_)
            · exact ⟨trivial,trivial⟩
            iterate 5 (refine wpI_pur_intro (v:=?_) _ rfl rfl (by decide) rfl (fun A' hI=>?_) ?_; rotate_left 1; (simp only [zW,zX,zD,builtinA,isLeaf,const1,ustrA,simprocAttr,ti3,ti9,ti36,ti37,ti39,ti48,ti273,ca101,ca115,ca186,ca242,ca281,ca302,cf,Tryz.results281,hI.1,hI.2,hi]; first | exact rfl | exact ⟨rfl,rfl⟩ | (refine ⟨by omega,?_⟩; exact rfl) | (refine ⟨⟨by omega,by omega⟩,?_⟩; exact rfl)))
            simp only [zW,zX,zD,builtinA,isLeaf,const1,ustrA,simprocAttr,ti3,ti9,ti36,ti37,ti39,ti48,ti273,ca101,ca115,ca186,ca242,ca281,ca302,cf,Tryz.results281,hi,hw,wpI_or_eq,wpI_stop_eq,wpI_done_eq]
            refine ⟨⟨⟨trivial,trivial⟩,?_⟩,?_⟩
            all_goals refine callK_intro (by first | rfl | (simp only [zW,zX,zD,builtinA,isLeaf,const1,ustrA,simprocAttr]; rfl)) (ih n1 rfl ((d + 1)) (lev - 1) p' i _ (by simp; omega) (hgA _ _) (by omega) (by omega) (by omega) (by omega)) ?_ rfl
            all_goals rintro _ _ ⟨y,p2,rfl,hz,hq1,hq2,rfl⟩
            all_goals have hks' : ∀ z ∈ ks ++ [y],szX z ≤ 4 ^ (n1 + 2):=(fun z hz'=>by rcases List.mem_append.1 hz' with h | h; exact hks z h; rw [List.mem_singleton.1 h]; exact hz)
            all_goals simp only [zW,zX,zD,builtinA,isLeaf,const1,ustrA,simprocAttr,ti3,ti9,ti36,ti37,ti39,ti48,ti273,ca101,ca115,ca186,ca242,ca281,ca302,cf,Tryz.results281,hi,encX_length,encX_take,encX_drop,frzL_encX,encX_closed,hgX,hsX,hjX,hj,hg,wpI_or_eq,wpI_stop_eq,wpI_done_eq]
            all_goals repeat' with_reducible refine And.intro ?_ ?_
            all_goals first | exact (⟨trivial,trivial⟩ : ITD _) | exact fun v hv=>encX_leaf _ v hv | exact (fun r hr=>by rw [List.mem_singleton.1 hr,encX_length]) | (rw [encXs_length]; omega) | skip
            all_goals (refine wpI_pur_intro (v:=?_) _ rfl rfl (by decide) rfl (fun A' hI=>?_) ?_; rotate_left 1; (simp only [zW,zX,zD,builtinA,isLeaf,const1,ustrA,simprocAttr,ti3,ti9,ti36,ti37,ti39,ti48,ti273,ca101,ca115,ca186,ca242,ca281,ca302,cf,Tryz.results281,hI.1,hI.2,hi]; first | exact rfl | exact ⟨rfl,rfl⟩ | (refine ⟨by omega,?_⟩; exact rfl) | (refine ⟨⟨by omega,by omega⟩,?_⟩; exact rfl)))
            all_goals simp only [zW,zX,zD,builtinA,isLeaf,const1,ustrA,simprocAttr,ti3,ti9,ti36,ti37,ti39,ti48,ti273,ca101,ca115,ca186,ca242,ca281,ca302,cf,Tryz.results281,hi,hi1,w1,LoopK_eq,wpI_or_eq,wpI_stop_eq,wpI_done_eq]
            all_goals have hsn : encXs ks ++ [encX y] = encXs (ks ++ [y]):=by rw [encXs_map,encXs_map]; simp
            all_goals have hmul : (q + 1) * 4 ^ (n1 + 2) = q * 4 ^ (n1 + 2) + 4 ^ (n1 + 2):=Nat.succ_mul _ _
            all_goals refine ⟨⟨trivial,trivial⟩,⟨q + 1,ks ++ [y],p2,_,_,by omega,by simp [hkl],hks',by omega,by omega,rfl,rfl,.inr ⟨B.length + 1,rfl,by simp,by rw [getD_sapp,hsn]; rfl⟩⟩,?_⟩
            all_goals (simp only [intOf]; omega)
        · have hq2 : q = kidN s:=by simp at h2; omega
          subst hq2
          rcases hx with ⟨h0,rfl,rfl⟩ | ⟨j,rfl,hj,hg⟩
          · exact absurd h0 hk0
          · simp only [zW,zX,zD,builtinA,isLeaf,const1,ustrA,simprocAttr,ti3,ti9,ti36,ti37,ti39,ti48,ti273,ca101,ca115,ca186,ca242,ca281,ca302,cf,Tryz.results281,hi,hj,hg]
            have hsm:=szXs_mul hks
            have hm3 : kidN s * 4 ^ (n1 + 2) ≤ 3 * 4 ^ (n1 + 2):=Nat.mul_le_mul_right _ hkn
            rw [hkl] at hsm
            refine ⟨outer_set A _ i _ (rd_closed _ _ _),.mk s 0 [] [] (t) ks,p',rfl,?_,by omega,by omega,rfl⟩
            have hzt : sz (t) ≤ 6:=hzt0
            rw [szX,hkl]; simp only [List.length_nil]; omega
    · simp only [zW,zX,zD,builtinA,isLeaf,const1,ustrA,simprocAttr,ti3,ti9,ti36,ti37,ti39,ti48,ti273,ca101,ca115,ca186,ca242,ca281,ca302,cf,Tryz.results281,hi,decide_eq_false k4]
      refine aloop_intro [0,1,2,6,7,8] (fun e A'=>∃ q ks p' B x,q ≤ kidN s ∧ ks.length = q ∧ (∀ y ∈ ks,szX y ≤ 4 ^ (n1 + 2)) ∧ (p + 1) ≤ p' ∧ p' ≤ (p + 1) + q * 4 ^ (n1 + 2) ∧ e = [(0,.ptr i 0),(1,.int .i64 d),(2,.int .i64 lev),(6,.ptr A.length 0),(7,.ptr (A.length + 2) 0),(8,.int .i64 (q : Nat))] ∧ A' = A.set i (Rd bs p') ++ (.cells [.int .i64 0,.int .i64 0,.str [],.str [],.int .i64 0,.str [],.str [],.nils,.nils] :: .row 1 [[.int .i64 5],[.int .i64 6],[.int .i64 4],[.int .i64 7],[.int .i64 5]] 5 :: .cells [.int .i64 s,.int .i64 0,.str [],.str [],.int .i64 0,.str [],.str [],.nils,x] :: B) ∧
        ((q = 0 ∧ x = .nils ∧ B = []) ∨ (∃ j,x = .own (A.length + (j + 3)) ∧ j < B.length ∧ B.getD j .dead = .row 9 (encXs ks) 0))) (fun e _=>kidN s - (intOf (Abs.look 8 e)).toNat) ?_ ?_
      · simp only [zW,zX,zD,builtinA,isLeaf,const1,ustrA,simprocAttr,ti3,ti9,ti36,ti37,ti39,ti48,ti273,ca101,ca115,ca186,ca242,ca281,ca302,cf,Tryz.results281]
        exact ⟨0,[],_,[],.nils,by omega,rfl,by simp,Nat.le_refl _,by omega,rfl,rfl,.inl ⟨rfl,rfl,rfl⟩⟩
      · rintro e A' ⟨q,ks,p',B,x,hq,hkl,hks,hp1,hp2,rfl,rfl,hx⟩
        simp only [zW,zX,zD,builtinA,isLeaf,const1,ustrA,simprocAttr,ti3,ti9,ti36,ti37,ti39,ti48,ti273,ca101,ca115,ca186,ca242,ca281,ca302,cf,Tryz.results281,hi]
        refine callK_intro (by simp only [zW,zX,zD,builtinA,isLeaf,const1,ustrA,simprocAttr]; rfl) (spec_l4KidsD s _) ?_ rfl; rintro v A' ⟨rfl,rfl⟩
        rw [hkc]
        simp only [zW,zX,zD,builtinA,isLeaf,const1,ustrA,simprocAttr,ti3,ti9,ti36,ti37,ti39,ti48,ti273,ca101,ca115,ca186,ca242,ca281,ca302,cf,Tryz.results281,hi]
        refine condK_intro (fun h2=>?_) (fun h2=>?_)
        · have hq2 : q < kidN s:=by simpa using h2
          have hi1 : IntKind.i64.wrap ((q : Int) + 1) = ((q + 1 : Nat) : Int):=by rw [wrap64 (by omega) (by omega)]; rfl
          have hqm : q * 4 ^ (n1 + 2) ≤ 2 * 4 ^ (n1 + 2):=Nat.mul_le_mul_right _ (by omega)
          rcases hx with ⟨rfl,rfl,rfl⟩ | ⟨j,rfl,hj,hg⟩
          · refine .inr (drawI_intro (.pur 0 (.pur 2 (.pur 3 (.pur 4 (.pur 5 (.or 1 (.or 6 (.or 7 (.or 8 (.pur 9 (.or 10 .done .stop)) .stop) .stop) .stop) (.or 6 (.or 1 (.or 7 (.or 8 (.pur 9 (.or 10 .done .stop)) .stop) .stop) (.or 7 (.or 1 (.or 8 (.pur 9 (.or 10 .done .stop)) .stop) .stop) .stop)) .stop))))))) (ITD) (by kernel_rfl) ?_ ?_)
            · exact ⟨trivial,trivial⟩
            iterate 5 (refine wpI_pur_intro (v:=?_) _ rfl rfl (by decide) rfl (fun A' hI=>?_) ?_; rotate_left 1; (simp only [zW,zX,zD,builtinA,isLeaf,const1,ustrA,simprocAttr,ti3,ti9,ti36,ti37,ti39,ti48,ti273,ca101,ca115,ca186,ca242,ca281,ca302,cf,Tryz.results281,hI.1,hI.2,hi]; first | exact rfl | exact ⟨rfl,rfl⟩ | (refine ⟨by omega,?_⟩; exact rfl) | (refine ⟨⟨by omega,by omega⟩,?_⟩; exact rfl)))
            simp only [zW,zX,zD,builtinA,isLeaf,const1,ustrA,simprocAttr,ti3,ti9,ti36,ti37,ti39,ti48,ti273,ca101,ca115,ca186,ca242,ca281,ca302,cf,Tryz.results281,hi,hw,wpI_or_eq,wpI_stop_eq,wpI_done_eq]
            refine ⟨⟨⟨trivial,trivial⟩,?_⟩,?_⟩
            all_goals refine callK_intro (by first | rfl | (simp only [zW,zX,zD,builtinA,isLeaf,const1,ustrA,simprocAttr]; rfl)) (ih n1 rfl (d) (lev - 1) p' i _ (by simp; omega) (hgA _ _) (by omega) (by omega) (by omega) (by omega)) ?_ rfl
            all_goals rintro _ _ ⟨y,p2,rfl,hz,hq1,hq2,rfl⟩
            all_goals have hks' : ∀ z ∈ ks ++ [y],szX z ≤ 4 ^ (n1 + 2):=(fun z hz'=>by rcases List.mem_append.1 hz' with h | h; exact hks z h; rw [List.mem_singleton.1 h]; exact hz)
            all_goals simp only [zW,zX,zD,builtinA,isLeaf,const1,ustrA,simprocAttr,ti3,ti9,ti36,ti37,ti39,ti48,ti273,ca101,ca115,ca186,ca242,ca281,ca302,cf,Tryz.results281,hi,encX_length,encX_take,encX_drop,frzL_encX,encX_closed,wpI_or_eq,wpI_stop_eq,wpI_done_eq]
            all_goals repeat' with_reducible refine And.intro ?_ ?_
            all_goals first | exact (⟨trivial,trivial⟩ : ITD _) | exact fun v hv=>encX_leaf _ v hv | exact (fun r hr=>by rw [List.mem_singleton.1 hr,encX_length]) | (rw [encXs_length]; omega) | skip
            all_goals (refine wpI_pur_intro (v:=?_) _ rfl rfl (by decide) rfl (fun A' hI=>?_) ?_; rotate_left 1; (simp only [zW,zX,zD,builtinA,isLeaf,const1,ustrA,simprocAttr,ti3,ti9,ti36,ti37,ti39,ti48,ti273,ca101,ca115,ca186,ca242,ca281,ca302,cf,Tryz.results281,hI.1,hI.2,hi]; first | exact rfl | exact ⟨rfl,rfl⟩ | (refine ⟨by omega,?_⟩; exact rfl) | (refine ⟨⟨by omega,by omega⟩,?_⟩; exact rfl)))
            all_goals simp only [zW,zX,zD,builtinA,isLeaf,const1,ustrA,simprocAttr,ti3,ti9,ti36,ti37,ti39,ti48,ti273,ca101,ca115,ca186,ca242,ca281,ca302,cf,Tryz.results281,hi,hi1,w1,LoopK_eq,wpI_or_eq,wpI_stop_eq,wpI_done_eq]
            all_goals obtain rfl : ks = []:=List.length_eq_zero_iff.1 hkl
            all_goals refine ⟨⟨trivial,trivial⟩,⟨0 + 1,[y],p2,_,_,by omega,rfl,hks',by omega,by omega,rfl,rfl,.inr ⟨1,rfl,by simp,by simp [encXs]⟩⟩,?_⟩
            all_goals (simp only [intOf]; omega)
          · have hgX : ∀ Y,(B ++ Y).getD j .dead = .row 9 (encXs ks) 0:=fun Y=>by rw [Abs.getD_append_left hj]; exact hg
            have hsX : ∀ Y : List Box,(B ++ Y).set j .dead = B.set j .dead ++ Y:=fun Y=>by rw [List.set_append_left _ _ hj]
            have hjX : ∀ n,j < B.length + n:=fun n=>by omega
            refine .inr (drawI_intro (.pur 0 (.pur 2 (.pur 3 (.pur 4 (.pur 5 (.or 1 (.or 6 (.or 7 (.or 8 (.pur 9 (.or 10 .done .stop)) .stop) .stop) .stop) (.or 6 (.or 1 (.or 7 (.or 8 (.pur 9 (.or 10 .done .stop)) .stop) .stop) (.or 7 (.or 1 (.or 8 (.pur 9 (.or 10 .done .stop)) .stop) .stop) .stop)) .stop))))))) (ITD) (by kernel_rfl) ?_ ?_)
            · exact ⟨trivial,trivial⟩
            iterate 5 (refine wpI_pur_intro (v:=?_) _ rfl rfl (by decide) rfl (fun A' hI=>?_) ?_; rotate_left 1; (simp only [zW,zX,zD,builtinA,isLeaf,const1,ustrA,simprocAttr,ti3,ti9,ti36,ti37,ti39,ti48,ti273,ca101,ca115,ca186,ca242,ca281,ca302,cf,Tryz.results281,hI.1,hI.2,hi]; first | exact rfl | exact ⟨rfl,rfl⟩ | (refine ⟨by omega,?_⟩; exact rfl) | (refine ⟨⟨by omega,by omega⟩,?_⟩; exact rfl)))
            simp only [zW,zX,zD,builtinA,isLeaf,const1,ustrA,simprocAttr,ti3,ti9,ti36,ti37,ti39,ti48,ti273,ca101,ca115,ca186,ca242,ca281,ca302,cf,Tryz.results281,hi,hw,wpI_or_eq,wpI_stop_eq,wpI_done_eq]
            refine ⟨⟨⟨trivial,trivial⟩,?_⟩,?_⟩
            all_goals refine callK_intro (by first | rfl | (simp only [zW,zX,zD,builtinA,isLeaf,const1,ustrA,simprocAttr]; rfl)) (ih n1 rfl (d) (lev - 1) p' i _ (by simp; omega) (hgA _ _) (by omega) (by omega) (by omega) (by omega)) ?_ rfl
            all_goals rintro _ _ ⟨y,p2,rfl,hz,hq1,hq2,rfl⟩
            all_goals have hks' : ∀ z ∈ ks ++ [y],szX z ≤ 4 ^ (n1 + 2):=(fun z hz'=>by rcases List.mem_append.1 hz' with h | h; exact hks z h; rw [List.mem_singleton.1 h]; exact hz)
            all_goals simp only [zW,zX,zD,builtinA,isLeaf,const1,ustrA,simprocAttr,ti3,ti9,ti36,ti37,ti39,ti48,ti273,ca101,ca115,ca186,ca242,ca281,ca302,cf,Tryz.results281,hi,encX_length,encX_take,encX_drop,frzL_encX,encX_closed,hgX,hsX,hjX,hj,hg,wpI_or_eq,wpI_stop_eq,wpI_done_eq]
            all_goals repeat' with_reducible refine And.intro ?_ ?_
            all_goals first | exact (⟨trivial,trivial⟩ : ITD _) | exact fun v hv=>encX_leaf _ v hv | exact (fun r hr=>by rw [List.mem_singleton.1 hr,encX_length]) | (rw [encXs_length]; omega) | skip
            all_goals (refine wpI_pur_intro (v:=?_) _ rfl rfl (by decide) rfl (fun A' hI=>?_) ?_; rotate_left 1; (simp only [zW,zX,zD,builtinA,isLeaf,const1,ustrA,simprocAttr,ti3,ti9,ti36,ti37,ti39,ti48,ti273,ca101,ca115,ca186,ca242,ca281,ca302,cf,Tryz.results281,hI.1,hI.2,hi]; first | exact rfl | exact ⟨rfl,rfl⟩ | (refine ⟨by omega,?_⟩; exact rfl) | (refine ⟨⟨by omega,by omega⟩,?_⟩; exact rfl)))
            all_goals simp only [zW,zX,zD,builtinA,isLeaf,const1,ustrA,simprocAttr,ti3,ti9,ti36,ti37,ti39,ti48,ti273,ca101,ca115,ca186,ca242,ca281,ca302,cf,Tryz.results281,hi,hi1,w1,LoopK_eq,wpI_or_eq,wpI_stop_eq,wpI_done_eq]
            all_goals have hsn : encXs ks ++ [encX y] = encXs (ks ++ [y]):=by rw [encXs_map,encXs_map]; simp
            all_goals have hmul : (q + 1) * 4 ^ (n1 + 2) = q * 4 ^ (n1 + 2) + 4 ^ (n1 + 2):=Nat.succ_mul _ _
            all_goals refine ⟨⟨trivial,trivial⟩,⟨q + 1,ks ++ [y],p2,_,_,by omega,by simp [hkl],hks',by omega,by omega,rfl,rfl,.inr ⟨B.length + 1,rfl,by simp,by rw [getD_sapp,hsn]; rfl⟩⟩,?_⟩
            all_goals (simp only [intOf]; omega)
        · have hq2 : q = kidN s:=by simp at h2; omega
          subst hq2
          rcases hx with ⟨h0,rfl,rfl⟩ | ⟨j,rfl,hj,hg⟩
          · exact absurd h0 hk0
          · simp only [zW,zX,zD,builtinA,isLeaf,const1,ustrA,simprocAttr,ti3,ti9,ti36,ti37,ti39,ti48,ti273,ca101,ca115,ca186,ca242,ca281,ca302,cf,Tryz.results281,hi,hj,hg]
            have hsm:=szXs_mul hks
            have hm3 : kidN s * 4 ^ (n1 + 2) ≤ 3 * 4 ^ (n1 + 2):=Nat.mul_le_mul_right _ hkn
            rw [hkl] at hsm
            refine ⟨outer_set A _ i _ (rd_closed _ _ _),.mk s 0 [] [] (ty0) ks,p',rfl,?_,by omega,by omega,rfl⟩
            have hzt : sz (ty0) ≤ 6:=(by decide)
            rw [szX,hkl]; simp only [List.length_nil]; omega
theorem drC (bs : List UInt8) : ∀ n,DrC bs n
  | 0=>spec_l4Draw_step bs 0 fun m h=>by omega
  | n + 1=>spec_l4Draw_step bs (n + 1) fun m h=>by
    have : n = m:=by omega
    rw [← this]; exact drC bs n
set_option maxRecDepth 100000 in
theorem spec_l4Any (bs : List UInt8) (p : Nat) (i : Nat) (A : List Box) (hi : i < A.length) (hA : A.getD i .dead = Rd bs p) (hp : p < 2 ^ 36) :
    ACalls Tryz.prog 231 [.ptr i 0] A (fun r A'=>∃ x p',r = .agg (encX x) ∧ szX x ≤ 1024 ∧ p ≤ p' ∧ p' ≤ p + 1100 ∧ A' = A.set i (Rd bs p')):=by
  have hgA : ∀ X (B : List Box),(A.set i X ++ B).getD i .dead = X:=fun X B=>by rw [getD_app1 _ _ _ _ (by simpa using hi),getD_set1 hi]
  have hgA0 : ∀ (B : List Box),(A ++ B).getD i .dead = Rd bs p:=fun B=>by rw [getD_app1 _ _ _ _ hi]; exact hA
  refine acalls_enter (cf:=cf 10 [0,2]) foll Tryz.func231 Tryz.ntmps231 (by simp [cf]) ?_
  simp only [Tryz.f231,EnterK_some,zW,zX,zD,builtinA,isLeaf,const1,ustrA,simprocAttr,ti3,ti39,ti273,ca115,ca186,ca281,cf,Tryz.results231]
  refine callK_intro (by simp only [zW,zX,zD,builtinA,isLeaf,const1,ustrA,simprocAttr]; rfl) (spec_pick bs p 2 i _ (by simp; omega) (hgA0 _) (by omega) (by omega)) ?_ rfl
  rintro v A' ⟨j1,rfl,k0,k1,rfl⟩
  simp only [zW,zX,zD,builtinA,isLeaf,const1,ustrA,simprocAttr,ti3,ti39,ti273,ca115,ca186,ca281,cf,Tryz.results231,hi]
  refine ⟨by simp,?_⟩
  refine callK_intro (by simp only [zW,zX,zD,builtinA,isLeaf,const1,ustrA,simprocAttr]; rfl) (spec_num bs (p + 1) [3,2,4,1] i _ (by simp; omega) (hgA _ _) (by omega) (by simp)) ?_ rfl
  rintro v A' ⟨s,rfl,hs,rfl⟩
  have hs4 : 1 ≤ s ∧ s ≤ 4:=by simp at hs; omega
  simp only [zW,zX,zD,builtinA,isLeaf,const1,ustrA,simprocAttr,ti3,ti39,ti273,ca115,ca186,ca281,cf,Tryz.results231,hi]
  have h45 : 4 ^ (3 + 2) = 1024:=by decide
  refine callK_intro (by simp only [zW,zX,zD,builtinA,isLeaf,const1,ustrA,simprocAttr]; rfl) (drC bs 3 j1 s (p + 1 + 1) i _ (by simp; omega) (hgA _ _) (by omega) (by omega) (by omega) (by omega)) ?_ rfl
  rintro v A' ⟨x,p',rfl,hz,hq1,hq2,rfl⟩
  simp only [zW,zX,zD,builtinA,isLeaf,const1,ustrA,simprocAttr,ti3,ti39,ti273,ca115,ca186,ca281,cf,Tryz.results231,hi,encX_length,encX_take,encX_drop,frzL_encX,encX_closed,Option.map_some]
  exact ⟨outer_set A _ i _ (rd_closed _ _ _),x,p',rfl,by omega,by omega,by omega,rfl⟩
end Go.Proofs.YtnjdbgiincliaaaGreat
/- Expressions that are sometimes changed. -/
set_option linter.unusedVariables false
set_option linter.unusedSimpArgs false
namespace Go.Proofs.YtnjdbgiincliaaaGreat
open Go.Abs
theorem encX_mk (k i : Int) (m n : List UInt8) (t : Ty) (ks : List Ex) : encX (.mk k i m n t ks) = [.int .i64 k,.int .i64 i,.str m,.str n,.int .i64 t.kind,.str t.mod,.str t.name,.slice (encs t.kids),.slice (encXs ks)]:=by rw [encX]
theorem encXs_nil : encXs [] = []:=by rw [encXs]
theorem szX_snoc (ks : List Ex) (y : Ex) : szXs (ks ++ [y]) = szXs ks + szX y:=by
  induction ks with
  | nil=>simp [szXs]
  | cons u l ih=>simp only [List.cons_append,szXs,ih]; omega
def exN : Ex:=.mk 2 0 [] [] ty0 []
set_option maxRecDepth 100000 in
set_option maxHeartbeats 4000000 in
theorem spec_l4Mutate (bs : List UInt8) (x : Ex) (hx : szX x ≤ 10000) (p : Nat) (i : Nat) (A : List Box) (hi : i < A.length) (hA : A.getD i .dead = Rd bs p) (hp : p < 2 ^ 38) :
    ACalls Tryz.prog 230 [.ptr i 0,.agg (encX x)] A (fun r A'=>∃ x' p',r = .agg (encX x') ∧ szX x' ≤ szX x + 40 ∧ p ≤ p' ∧ p' ≤ p + 2 ∧ A' = A.set i (Rd bs p')):=by
  have hgA : ∀ X (B : List Box),(A.set i X ++ B).getD i .dead = X:=fun X B=>by rw [getD_app1 _ _ _ _ (by simpa using hi),getD_set1 hi]
  obtain ⟨k,ii,m,n,t,ks⟩:=x
  have hsx : szX (.mk k ii m n t ks) = m.length + n.length + sz t + (ks.length + szXs ks):=by rw [szX]
  refine acalls_enter (cf:=cf 41 [0,1,3,4,5,9,10,16,22,30,36]) foll Tryz.func230 Tryz.ntmps230 (by simp [cf]) ?_
  simp only [Tryz.f230,EnterK_some,zW,zX,zD,builtinA,isLeaf,const1,ustrA,simprocAttr,ti3,ti9,ti36,ti37,ti39,ti48,ti273,ca101,ca115,ca186,ca189,ca235,cf,Tryz.results230]
  simp only [zW,zX,zD,builtinA,isLeaf,const1,ustrA,simprocAttr,ti3,ti9,ti36,ti37,ti39,ti48,ti273,ca101,ca115,ca186,ca189,ca235,cf,Tryz.results230,encX_length,encX_take,encX_drop,frzL_encX,encX_closed,Option.map_some]
  refine callK_intro (by simp only [zW,zX,zD,builtinA,isLeaf,const1,ustrA,simprocAttr,frzL_encX,Option.map_some]; rfl) (spec_l4CopyK k ii m n t ks (by omega) _) ?_ rfl
  rintro v A' ⟨x,B,rfl,rfl,hx⟩
  simp only [zW,zX,zD,builtinA,isLeaf,const1,ustrA,simprocAttr,ti3,ti9,ti36,ti37,ti39,ti48,ti273,ca101,ca115,ca186,ca189,ca235,cf,Tryz.results230]
  refine callK_intro (by simp only [zW,zX,zD,builtinA,isLeaf,const1,ustrA,simprocAttr]; rfl) (spec_pick bs p 50 i _ (by simp; omega) (by simp only [getD_app1 _ _ _ _ hi,hA]) (by omega) (by omega)) ?_ rfl
  rintro v A' ⟨j1,rfl,h0,h1,rfl⟩
  have hx' : (x = .nils ∧ ks = []) ∨ ∃ j,x = .own (A.length + (j + 2)) ∧ j < B.length ∧ B.getD j .dead = .row 9 (encXs ks) 0:=by
    rcases hx with h | ⟨j,h1,h2,h3⟩
    · exact .inl h
    · refine .inr ⟨j,?_,h2,h3⟩
      rw [h1]
      simp only [List.length_append,List.length_cons,List.length_nil]
      congr 1
      omega
  clear hx
  rcases hx' with ⟨rfl,rfl⟩ | ⟨j,rfl,hj,hg⟩
  · simp only [zW,zX,zD,builtinA,isLeaf,const1,ustrA,simprocAttr,ti3,ti9,ti36,ti37,ti39,ti48,ti273,ca101,ca115,ca186,ca189,ca235,cf,Tryz.results230,hi]
    by_cases k0 : j1 = 0
    · simp only [zW,zX,zD,builtinA,isLeaf,const1,ustrA,simprocAttr,ti3,ti9,ti36,ti37,ti39,ti48,ti273,ca101,ca115,ca186,ca189,ca235,cf,Tryz.results230,hi,decide_eq_true k0]
      refine ⟨by simp,?_⟩
      refine callK_intro (by simp only [zW,zX,zD,builtinA,isLeaf,const1,ustrA,simprocAttr,hi]; rfl) (spec_num bs (p + 1) [0,8,2,3] i _ (by simp; omega) (hgA _ _) (by omega) (by simp)) ?_ rfl
      rintro v A' ⟨s,rfl,hs,rfl⟩
      simp only [zW,zX,zD,builtinA,isLeaf,const1,ustrA,simprocAttr,ti3,ti9,ti36,ti37,ti39,ti48,ti273,ca101,ca115,ca186,ca189,ca235,cf,Tryz.results230,hi]
      refine ⟨outer_set A _ i _ (rd_closed _ _ _),.mk s ii m n t [],p + 1 + 1,by rw [encX_mk,encXs_nil],?_,by omega,by omega,rfl⟩
      simp only [szX] at hsx ⊢; omega
    · simp only [zW,zX,zD,builtinA,isLeaf,const1,ustrA,simprocAttr,ti3,ti9,ti36,ti37,ti39,ti48,ti273,ca101,ca115,ca186,ca189,ca235,cf,Tryz.results230,hi,decide_eq_false k0]
      by_cases k1 : j1 = 1
      · simp only [zW,zX,zD,builtinA,isLeaf,const1,ustrA,simprocAttr,ti3,ti9,ti36,ti37,ti39,ti48,ti273,ca101,ca115,ca186,ca189,ca235,cf,Tryz.results230,hi,decide_eq_true k1]
        refine ⟨by simp,?_⟩
        refine callK_intro (by simp only [zW,zX,zD,builtinA,isLeaf,const1,ustrA,simprocAttr,hi]; rfl) (spec_num bs (p + 1) [13,100,-1,1] i _ (by simp; omega) (hgA _ _) (by omega) (by simp)) ?_ rfl
        rintro v A' ⟨s,rfl,hs,rfl⟩
        simp only [zW,zX,zD,builtinA,isLeaf,const1,ustrA,simprocAttr,ti3,ti9,ti36,ti37,ti39,ti48,ti273,ca101,ca115,ca186,ca189,ca235,cf,Tryz.results230,hi]
        refine ⟨outer_set A _ i _ (rd_closed _ _ _),.mk k s m n t [],p + 1 + 1,by rw [encX_mk,encXs_nil],?_,by omega,by omega,rfl⟩
        simp only [szX] at hsx ⊢; omega
      · simp only [zW,zX,zD,builtinA,isLeaf,const1,ustrA,simprocAttr,ti3,ti9,ti36,ti37,ti39,ti48,ti273,ca101,ca115,ca186,ca189,ca235,cf,Tryz.results230,hi,decide_eq_false k1]
        by_cases k2 : j1 = 2
        · simp only [zW,zX,zD,builtinA,isLeaf,const1,ustrA,simprocAttr,ti3,ti9,ti36,ti37,ti39,ti48,ti273,ca101,ca115,ca186,ca189,ca235,cf,Tryz.results230,hi,decide_eq_true k2]
          have hE : encXs [exN] = [[.int .i64 2,.int .i64 0,.str [],.str [],.int .i64 0,.str [],.str [],.slice [],.slice []]]:=by simp [exN,encX,encXs,ty0,encs,Ty.kind,Ty.mod,Ty.name,Ty.kids]
          refine ⟨by simp [isLeaf],by simp,outer_set A _ i _ (rd_closed _ _ _),.mk k ii m n t [exN],p + 1,by rw [encX_mk,hE],?_,by omega,by omega,rfl⟩
          have z1 : szX exN = 0:=by simp [exN,szX,szXs,ty0,sz,szs]
          simp only [szX,szXs,z1,List.length_nil,List.length_singleton] at hsx ⊢; omega
        · simp only [zW,zX,zD,builtinA,isLeaf,const1,ustrA,simprocAttr,ti3,ti9,ti36,ti37,ti39,ti48,ti273,ca101,ca115,ca186,ca189,ca235,cf,Tryz.results230,hi,decide_eq_false k2]
          by_cases k3 : j1 = 3
          · simp only [zW,zX,zD,builtinA,isLeaf,const1,ustrA,simprocAttr,ti3,ti9,ti36,ti37,ti39,ti48,ti273,ca101,ca115,ca186,ca189,ca235,cf,Tryz.results230,hi,decide_eq_true k3]
            refine ⟨by simp,?_⟩
            refine callK_intro (by simp only [zW,zX,zD,builtinA,isLeaf,const1,ustrA,simprocAttr,hi]; rfl) (spec_of bs (p + 1) [[65],[97]] i _ (by simp; omega) (hgA _ _) (by omega) (by simp)) ?_ rfl
            rintro v A' ⟨s,rfl,hs,rfl⟩
            simp only [zW,zX,zD,builtinA,isLeaf,const1,ustrA,simprocAttr,ti3,ti9,ti36,ti37,ti39,ti48,ti273,ca101,ca115,ca186,ca189,ca235,cf,Tryz.results230,hi]
            have hsl : s.length ≤ 1:=by simp at hs; rcases hs with rfl | rfl <;> simp
            refine ⟨outer_set A _ i _ (rd_closed _ _ _),.mk k ii s n t [],p + 1 + 1,by rw [encX_mk,encXs_nil],?_,by omega,by omega,rfl⟩
            simp only [szX] at hsx ⊢; omega
          · simp only [zW,zX,zD,builtinA,isLeaf,const1,ustrA,simprocAttr,ti3,ti9,ti36,ti37,ti39,ti48,ti273,ca101,ca115,ca186,ca189,ca235,cf,Tryz.results230,hi,decide_eq_false k3]
            by_cases k4 : j1 = 4
            · have hN:=fun A=>spec_l1Num A
              simp only [zW,zX,zD,builtinA,isLeaf,const1,ustrA,simprocAttr,ti3,ti9,ti36,ti37,ti39,ti48,ti273,ca101,ca115,ca186,ca189,ca235,cf,Tryz.results230,hi,decide_eq_true k4]
              refine callK_intro (by simp only [zW,zX,zD,builtinA,isLeaf,const1,ustrA,simprocAttr,enc_length,enc_take,enc_drop,frzL_enc,enc_closed,Option.map_some]; rfl) (hN _) ?_ rfl; rintro v A' ⟨rfl,rfl⟩
              rw [encT4]
              simp only [zW,zX,zD,builtinA,isLeaf,const1,ustrA,simprocAttr,ti3,ti9,ti36,ti37,ti39,ti48,ti273,ca101,ca115,ca186,ca189,ca235,cf,Tryz.results230,hi]
              refine ⟨outer_set A _ i _ (rd_closed _ _ _),.mk k ii m n (toTy .num) [],p + 1,by rw [encX_mk,encXs_nil],?_,by omega,by omega,rfl⟩
              have z1 : sz (toTy .num) ≤ 2:=by decide
              simp only [szX] at hsx ⊢; omega
            · simp only [zW,zX,zD,builtinA,isLeaf,const1,ustrA,simprocAttr,ti3,ti9,ti36,ti37,ti39,ti48,ti273,ca101,ca115,ca186,ca189,ca235,cf,Tryz.results230,hi,decide_eq_false k4]
              refine ⟨outer_set A _ i _ (rd_closed _ _ _),.mk k ii m n t [],p + 1,by rw [encX_mk,encXs_nil],?_,by omega,by omega,rfl⟩
              omega
  · have hgX : ∀ Y,(B ++ Y).getD j .dead = .row 9 (encXs ks) 0:=fun Y=>by rw [Abs.getD_append_left hj]; exact hg
    have hsX : ∀ (Y : List Box) Z,(B ++ Y).set j Z = B.set j Z ++ Y:=fun Y Z=>by rw [List.set_append_left _ _ hj]
    have hjX : ∀ n,j < B.length + n:=fun n=>by omega
    simp only [zW,zX,zD,builtinA,isLeaf,const1,ustrA,simprocAttr,ti3,ti9,ti36,ti37,ti39,ti48,ti273,ca101,ca115,ca186,ca189,ca235,cf,Tryz.results230,hi,hj,hg,hgX,hsX,hjX]
    by_cases k0 : j1 = 0
    · simp only [zW,zX,zD,builtinA,isLeaf,const1,ustrA,simprocAttr,ti3,ti9,ti36,ti37,ti39,ti48,ti273,ca101,ca115,ca186,ca189,ca235,cf,Tryz.results230,hi,hj,hg,hgX,hsX,hjX,decide_eq_true k0]
      refine ⟨by simp,?_⟩
      refine callK_intro (by simp only [zW,zX,zD,builtinA,isLeaf,const1,ustrA,simprocAttr,hi]; rfl) (spec_num bs (p + 1) [0,8,2,3] i _ (by simp; omega) (hgA _ _) (by omega) (by simp)) ?_ rfl
      rintro v A' ⟨s,rfl,hs,rfl⟩
      simp only [zW,zX,zD,builtinA,isLeaf,const1,ustrA,simprocAttr,ti3,ti9,ti36,ti37,ti39,ti48,ti273,ca101,ca115,ca186,ca189,ca235,cf,Tryz.results230,hi,hj,hg,hgX,hsX,hjX]
      refine ⟨outer_set A _ i _ (rd_closed _ _ _),.mk s ii m n t ks,p + 1 + 1,by rw [encX_mk],?_,by omega,by omega,rfl⟩
      simp only [szX] at hsx ⊢; omega
    · simp only [zW,zX,zD,builtinA,isLeaf,const1,ustrA,simprocAttr,ti3,ti9,ti36,ti37,ti39,ti48,ti273,ca101,ca115,ca186,ca189,ca235,cf,Tryz.results230,hi,hj,hg,hgX,hsX,hjX,decide_eq_false k0]
      by_cases k1 : j1 = 1
      · simp only [zW,zX,zD,builtinA,isLeaf,const1,ustrA,simprocAttr,ti3,ti9,ti36,ti37,ti39,ti48,ti273,ca101,ca115,ca186,ca189,ca235,cf,Tryz.results230,hi,hj,hg,hgX,hsX,hjX,decide_eq_true k1]
        refine ⟨by simp,?_⟩
        refine callK_intro (by simp only [zW,zX,zD,builtinA,isLeaf,const1,ustrA,simprocAttr,hi]; rfl) (spec_num bs (p + 1) [13,100,-1,1] i _ (by simp; omega) (hgA _ _) (by omega) (by simp)) ?_ rfl
        rintro v A' ⟨s,rfl,hs,rfl⟩
        simp only [zW,zX,zD,builtinA,isLeaf,const1,ustrA,simprocAttr,ti3,ti9,ti36,ti37,ti39,ti48,ti273,ca101,ca115,ca186,ca189,ca235,cf,Tryz.results230,hi,hj,hg,hgX,hsX,hjX]
        refine ⟨outer_set A _ i _ (rd_closed _ _ _),.mk k s m n t ks,p + 1 + 1,by rw [encX_mk],?_,by omega,by omega,rfl⟩
        simp only [szX] at hsx ⊢; omega
      · simp only [zW,zX,zD,builtinA,isLeaf,const1,ustrA,simprocAttr,ti3,ti9,ti36,ti37,ti39,ti48,ti273,ca101,ca115,ca186,ca189,ca235,cf,Tryz.results230,hi,hj,hg,hgX,hsX,hjX,decide_eq_false k1]
        by_cases k2 : j1 = 2
        · simp only [zW,zX,zD,builtinA,isLeaf,const1,ustrA,simprocAttr,ti3,ti9,ti36,ti37,ti39,ti48,ti273,ca101,ca115,ca186,ca189,ca235,cf,Tryz.results230,hi,hj,hg,hgX,hsX,hjX,decide_eq_true k2]
          have hkl : ks.length ≤ 10000:=by omega
          have hE : encXs (ks ++ [exN]) = encXs ks ++ [[.int .i64 2,.int .i64 0,.str [],.str [],.int .i64 0,.str [],.str [],.slice [],.slice []]]:=by rw [encXs_map,encXs_map]; simp [exN,encX,encXs,ty0,encs,Ty.kind,Ty.mod,Ty.name,Ty.kids]
          refine ⟨by simp [isLeaf],⟨by simp,by rw [encXs_length]; omega⟩,outer_set A _ i _ (rd_closed _ _ _),.mk k ii m n t (ks ++ [exN]),p + 1,by rw [encX_mk,hE],?_,by omega,by omega,rfl⟩
          have z1 : szX exN = 0:=by simp [exN,szX,szXs,ty0,sz,szs]
          simp only [szX,szX_snoc,z1,List.length_append,List.length_singleton] at hsx ⊢; omega
        · simp only [zW,zX,zD,builtinA,isLeaf,const1,ustrA,simprocAttr,ti3,ti9,ti36,ti37,ti39,ti48,ti273,ca101,ca115,ca186,ca189,ca235,cf,Tryz.results230,hi,hj,hg,hgX,hsX,hjX,decide_eq_false k2]
          by_cases k3 : j1 = 3
          · simp only [zW,zX,zD,builtinA,isLeaf,const1,ustrA,simprocAttr,ti3,ti9,ti36,ti37,ti39,ti48,ti273,ca101,ca115,ca186,ca189,ca235,cf,Tryz.results230,hi,hj,hg,hgX,hsX,hjX,decide_eq_true k3]
            refine ⟨by simp,?_⟩
            refine callK_intro (by simp only [zW,zX,zD,builtinA,isLeaf,const1,ustrA,simprocAttr,hi]; rfl) (spec_of bs (p + 1) [[65],[97]] i _ (by simp; omega) (hgA _ _) (by omega) (by simp)) ?_ rfl
            rintro v A' ⟨s,rfl,hs,rfl⟩
            simp only [zW,zX,zD,builtinA,isLeaf,const1,ustrA,simprocAttr,ti3,ti9,ti36,ti37,ti39,ti48,ti273,ca101,ca115,ca186,ca189,ca235,cf,Tryz.results230,hi,hj,hg,hgX,hsX,hjX]
            have hsl : s.length ≤ 1:=by simp at hs; rcases hs with rfl | rfl <;> simp
            refine ⟨outer_set A _ i _ (rd_closed _ _ _),.mk k ii s n t ks,p + 1 + 1,by rw [encX_mk],?_,by omega,by omega,rfl⟩
            simp only [szX] at hsx ⊢; omega
          · simp only [zW,zX,zD,builtinA,isLeaf,const1,ustrA,simprocAttr,ti3,ti9,ti36,ti37,ti39,ti48,ti273,ca101,ca115,ca186,ca189,ca235,cf,Tryz.results230,hi,hj,hg,hgX,hsX,hjX,decide_eq_false k3]
            by_cases k4 : j1 = 4
            · have hN:=fun A=>spec_l1Num A
              simp only [zW,zX,zD,builtinA,isLeaf,const1,ustrA,simprocAttr,ti3,ti9,ti36,ti37,ti39,ti48,ti273,ca101,ca115,ca186,ca189,ca235,cf,Tryz.results230,hi,hj,hg,hgX,hsX,hjX,decide_eq_true k4]
              refine callK_intro (by simp only [zW,zX,zD,builtinA,isLeaf,const1,ustrA,simprocAttr,enc_length,enc_take,enc_drop,frzL_enc,enc_closed,Option.map_some]; rfl) (hN _) ?_ rfl; rintro v A' ⟨rfl,rfl⟩
              rw [encT4]
              simp only [zW,zX,zD,builtinA,isLeaf,const1,ustrA,simprocAttr,ti3,ti9,ti36,ti37,ti39,ti48,ti273,ca101,ca115,ca186,ca189,ca235,cf,Tryz.results230,hi,hj,hg,hgX,hsX,hjX]
              refine ⟨outer_set A _ i _ (rd_closed _ _ _),.mk k ii m n (toTy .num) ks,p + 1,by rw [encX_mk],?_,by omega,by omega,rfl⟩
              have z1 : sz (toTy .num) ≤ 2:=by decide
              simp only [szX] at hsx ⊢; omega
            · simp only [zW,zX,zD,builtinA,isLeaf,const1,ustrA,simprocAttr,ti3,ti9,ti36,ti37,ti39,ti48,ti273,ca101,ca115,ca186,ca189,ca235,cf,Tryz.results230,hi,hj,hg,hgX,hsX,hjX,decide_eq_false k4]
              refine ⟨outer_set A _ i _ (rd_closed _ _ _),.mk k ii m n t ks,p + 1,by rw [encX_mk],?_,by omega,by omega,rfl⟩
              omega
end Go.Proofs.YtnjdbgiincliaaaGreat
/- Types that are small enough. -/
set_option linter.unusedVariables false
namespace Go.Proofs.YtnjdbgiincliaaaGreat
mutual
theorem okSz : ∀ t,sz t ≤ 1048576 → Ty.Ok t
  | .mk k m n ks,h=>by
    rw [sz] at h
    exact .mk (by omega) (by omega) (by omega) (oksSz ks (by omega))
theorem oksSz : ∀ l,szs l ≤ 1048576 → ∀ t ∈ l,Ty.Ok t
  | [],_=>by simp
  | t :: l,h=>by
    rw [szs] at h
    intro u hu
    rcases List.mem_cons.1 hu with e | hu
    · rw [e]; exact okSz t (by omega)
    · exact oksSz l (by omega) u hu
end
end Go.Proofs.YtnjdbgiincliaaaGreat
/- The facts of a claim, one by one: a great program's do not fit into one check. -/
set_option linter.unusedVariables false
namespace Go.Proofs.YtnjdbgiincliaaaGreat
open Go.Abs Go.RowKit Go.ChangeShapes Go.WideShapes Go.ChangeAt Go.ChangeMaps
open Program Func OpenClaim in
theorem jf_of {P : Program} {f : FuncId} {fn : Func} {s : ChangeSpec} {c : OpenClaim} (h0 : (c.wf (OpenSpec.ofChange s)) = true) (h1 : (laidOutB P) = true) (h2 : (mapsRowed P) = true) (h3 : (fn.params.all (P.readableRec ·)) = true) (h4 : (namedTie P c.named s.vars) = true) (h5 : ((c.stops == [])) = true) (h6 : ((P.stops == [])) = true) (h7 : ((c.knobs == [])) = true) (h8 : ((P.stopKnobs == [])) = true) (h9 : ((c.inPlace == P.inPlace f)) = true) (h10 : ((c.unfollowed == P.unfollowed f)) = true) (h11 : ((c.recurses == P.recurses f)) = true) (h12 : ((c.named == P.varsNamed f)) = true) (h13 : ((c.maps == (fn.params.toList ++ s.plain.varTypes P).any (P.mapsRec ·))) = true) (h14 : ((c.ifaces == (fn.params.toList ++ s.plain.varTypes P).any (P.ifacesRec ·))) = true) (h15 : ((c.mapsOut == P.mapsAmong fn.resultTypes.toList)) = true) (h16 : ((c.loops == (fn.params.toList ++ s.plain.varTypes P).any (P.loopsFrom ·))) = true) (h17 : ((c.wideKeys == (fn.params.toList ++ s.plain.varTypes P ++ fn.resultTypes.toList).any (P.wideKeysFrom ·))) = true) (h18 : (s.vars.all (P.varReadable ·)) = true) (h19 : (fn.resultTypes.all (fun t=>P.readableRec t && decide (t < P.types.size))) = true) (h20 : ((c.ifacesOut == fn.resultTypes.toList.any (P.ifacesRec ·))) = true) (h21 : ((c.loopsOut == fn.resultTypes.toList.any (P.loopsFrom ·))) = true) (h22 : ((c.plainKeys == P.plainKeys)) = true) (h23 : (c.shortTexts.isNone) = true) (h24 : (P.stopsHeard) = true) (h25 : (P.mayEnter) = true) (h26 : ((c.lifted == P.liftsFinal)) = true) (h27 : ((P.make == some c.make)) = true) (h28 : ((c.kinds == (if c.domain.isEmpty then [] else fn.params.toList.map fun t=>match P.underlying t with | some (.int k)=>some k | _=>none))) = true) (h29 : ((c.pinned == c.pinnedBy)) = true) (h30 : ((c.veiled == (fn.params.toList ++ s.plain.varTypes P ++ fn.resultTypes.toList).any (P.veiledRec ·))) = true) (h31 : (c.veiledFits P fn.params.toList (fn.params.toList ++ s.plain.varTypes P ++ fn.resultTypes.toList)) = true) : joinedFacts P f fn s c = true:=by
  unfold joinedFacts
  simp only [h0,h1,h2,h3,h4,h5,h6,h7,h8,h9,h10,h11,h12,h13,h14,h15,h16,h17,h18,h19,h20,h21,h22,h23,h24,h25,h26,h27,h29,h30,h31,Bool.and_true,Bool.true_and]
  exact h28
theorem jp1 : laidOutB Tryz.pinned.checked.prog = true:=laid
theorem jp2 : mapsRowed Tryz.pinned.checked.prog = true:=by kernel_rfl
theorem jp6 : (Tryz.pinned.checked.prog.stops == []) = true:=by kernel_rfl
theorem jp8 : (Tryz.pinned.checked.prog.stopKnobs == []) = true:=by kernel_rfl
theorem jp24 : Tryz.pinned.checked.prog.stopsHeard = true:=by kernel_rfl
theorem jp25 : Tryz.pinned.checked.prog.mayEnter = true:=by kernel_rfl
end Go.Proofs.YtnjdbgiincliaaaGreat
