/- DrawTy, DrawCopy. -/
import Derived.Test.YtnjdbgiincliaaaGreatX10
import Derived.Test.YtnjdbgiincliaaaGreatAbsW3
/- Drawn types. -/
set_option linter.unusedVariables false
set_option linter.unusedSimpArgs false
namespace Go.Proofs.YtnjdbgiincliaaaGreat
open Go.Abs
theorem enc_closed (t : Ty) (n : Nat) : (enc t).all (closed1 n) = true:=by cases t; rfl
theorem enc_drop (t : Ty) : List.drop 4 (enc t) = []:=by cases t; rw [enc]; rfl
theorem sz_toTy : ∀ v,okV v = true → sz (toTy v) ≤ 2 * cnt v
  | .num,_=>by simp [toTy,sz,szs,cnt]
  | .nm m n,h=>by
    simp only [okV,nmB,Bool.and_eq_true,Bool.or_eq_true,decide_eq_true_eq] at h
    have h1 : n.length = 1:=by have:=h.2; simp only [localB,Bool.and_eq_true,beq_iff_eq] at this; exact this.1
    have h2 : m.length ≤ 1:=by
      rcases h.1 with rfl | h
      · simp
      · simp only [moduleB,Bool.and_eq_true,beq_iff_eq] at h; omega
    simp only [toTy,sz,szs,cnt,List.length_nil]; omega
  | .fn a b,h=>by
    simp only [okV,Bool.and_eq_true] at h
    have ha:=sz_toTy a h.1
    have hb:=sz_toTy b h.2
    simp only [toTy,sz,szs,cnt,List.length_nil,List.length_cons]; omega
set_option maxRecDepth 100000 in
theorem spec_l1Num (A : List Box) : ACalls Tryz.prog 189 [] A (fun r A'=>r = .agg (enc (toTy .num)) ∧ A' = A):=by
  rw [toTy,enc,encs]
  refine acalls_enter (cf:=cf 2 [0]) foll Tryz.func189 Tryz.ntmps189 (by simp [cf]) ?_
  simp only [Tryz.f189,EnterK_some,zW,zX,zD,builtinA,isLeaf,const1,Nat.reduceAdd,Nat.reduceMul,Nat.reduceSub,Nat.reduceLT,Nat.reduceLeDiff,Nat.reduceEqDiff,Nat.reduceBEq,Nat.reduceBNe,reduceIte,reduceCtorEq,Int.reduceToNat,Int.reduceLT,Int.reduceLE,Int.reduceEq,Int.reduceNe,Int.reduceNeg,ustrA,ti36,cf,Tryz.results189]
set_option maxRecDepth 100000 in
theorem spec_l1Name (m n : List UInt8) (A : List Box) : ACalls Tryz.prog 188 [.str m,.str n] A (fun r A'=>r = .agg (enc (toTy (.nm m n))) ∧ A' = A):=by
  rw [toTy,enc,encs]
  refine acalls_enter (cf:=cf 8 [0,1,4]) foll Tryz.func188 Tryz.ntmps188 (by simp [cf]) ?_
  simp only [Tryz.f188,EnterK_some,zW,zX,zD,builtinA,isLeaf,const1,Nat.reduceAdd,Nat.reduceMul,Nat.reduceSub,Nat.reduceLT,Nat.reduceLeDiff,Nat.reduceEqDiff,Nat.reduceBEq,Nat.reduceBNe,reduceIte,reduceCtorEq,Int.reduceToNat,Int.reduceLT,Int.reduceLE,Int.reduceEq,Int.reduceNe,Int.reduceNeg,ustrA,ti36,cf,Tryz.results188]
set_option maxRecDepth 100000 in
theorem spec_l1Fun (a b : Ty) (A : List Box) : ACalls Tryz.prog 256 [.agg (enc a),.agg (enc b)] A (fun r A'=>r = .agg (enc (.mk 2 [] [] [a,b])) ∧ A' = A):=by
  rw [enc,encs,encs,encs]
  refine acalls_enter (cf:=cf 9 [0,1,2,3,4]) foll Tryz.func256 Tryz.ntmps256 (by simp [cf]) ?_
  simp only [Tryz.f256,EnterK_some,zW,zX,zD,builtinA,isLeaf,const1,Nat.reduceAdd,Nat.reduceMul,Nat.reduceSub,Nat.reduceLT,Nat.reduceLeDiff,Nat.reduceEqDiff,Nat.reduceBEq,Nat.reduceBNe,reduceIte,reduceCtorEq,Int.reduceToNat,Int.reduceLT,Int.reduceLE,Int.reduceEq,Int.reduceNe,Int.reduceNeg,ustrA,ti34,ti36,cf,Tryz.results256]
  simp only [enc_take,enc_length]
  simp only [zW,zX,zD,builtinA,isLeaf,const1,Nat.reduceAdd,Nat.reduceMul,Nat.reduceSub,Nat.reduceLT,Nat.reduceLeDiff,Nat.reduceEqDiff,Nat.reduceBEq,Nat.reduceBNe,reduceIte,reduceCtorEq,Int.reduceToNat,Int.reduceLT,Int.reduceLE,Int.reduceEq,Int.reduceNe,Int.reduceNeg,ustrA,ti34,ti36,cf,Tryz.results256,frzL_enc,enc_take,enc_length]
  exact ⟨fun v hv=>enc_leaf a v hv,fun v hv=>enc_leaf b v hv⟩
set_option maxRecDepth 100000 in
theorem spec_l1Draw (bs : List UInt8) : ∀ (n : Nat) (d : Int) (p : Nat) (i : Nat) (A : List Box) (hi : i < A.length) (hA : A.getD i .dead = Rd bs p) (hn : d ≤ n + 1) (hd : d ≤ 10 ∧ -10 ≤ d) (hp : p + 2 ^ (n + 2) < 2 ^ 39),
    ACalls Tryz.prog 302 [.ptr i 0,.int .i64 d] A (fun r A'=>∃ v p',r = .agg (enc (toTy v)) ∧ okV v = true ∧ dep v ≤ n + 1 ∧ p ≤ p' ∧ p' + 1 ≤ p + 2 ^ (n + 2) ∧ A' = A.set i (Rd bs p')):=by
  intro n
  induction n with
  | zero =>
    intro d p i A hi hA hn hd hp
    have hgA : ∀ X (B : List Box),(A.set i X ++ B).getD i .dead = X:=fun X B=>by rw [getD_app1 _ _ _ _ (by simpa using hi),getD_set1 hi]
    refine acalls_enter (cf:=cf 39 [0,1,4,11,13,14,20]) foll Tryz.func302 Tryz.ntmps302 (by simp [cf]) ?_
    simp only [Tryz.f302,EnterK_some,zW,zX,zD,builtinA,isLeaf,const1,Nat.reduceAdd,Nat.reduceMul,Nat.reduceSub,Nat.reduceLT,Nat.reduceLeDiff,Nat.reduceEqDiff,Nat.reduceBEq,Nat.reduceBNe,reduceIte,reduceCtorEq,Int.reduceToNat,Int.reduceLT,Int.reduceLE,Int.reduceEq,Int.reduceNe,Int.reduceNeg,ustrA,ti3,ti9,ti36,ti48,ca101,ca115,ca188,ca189,ca256,ca302,cf,Tryz.results302]
    have e1 : decide (d < 2) = true:=decide_eq_true (by omega)
    simp only [zW,zX,zD,builtinA,isLeaf,const1,Nat.reduceAdd,Nat.reduceMul,Nat.reduceSub,Nat.reduceLT,Nat.reduceLeDiff,Nat.reduceEqDiff,Nat.reduceBEq,Nat.reduceBNe,reduceIte,reduceCtorEq,Int.reduceToNat,Int.reduceLT,Int.reduceLE,Int.reduceEq,Int.reduceNe,Int.reduceNeg,ustrA,ti3,ti9,ti36,ti48,ca101,ca115,ca188,ca189,ca256,ca302,cf,Tryz.results302,hi,e1]
    refine callK_intro (by simp only [zW,zX,zD,builtinA,isLeaf,const1,Nat.reduceAdd,Nat.reduceMul,Nat.reduceSub,Nat.reduceLT,Nat.reduceLeDiff,Nat.reduceEqDiff,Nat.reduceBEq,Nat.reduceBNe,reduceIte,reduceCtorEq,Int.reduceToNat,Int.reduceLT,Int.reduceLE,Int.reduceEq,Int.reduceNe,Int.reduceNeg,ustrA]; rfl) (spec_pick bs p 4 i _ (by simp; omega) (by simp only [getD_app1 _ _ _ _ hi,hA]) (by omega) (by omega)) ?_ rfl
    rintro v A' ⟨j1,rfl,h0,h1,rfl⟩
    simp only [zW,zX,zD,builtinA,isLeaf,const1,Nat.reduceAdd,Nat.reduceMul,Nat.reduceSub,Nat.reduceLT,Nat.reduceLeDiff,Nat.reduceEqDiff,Nat.reduceBEq,Nat.reduceBNe,reduceIte,reduceCtorEq,Int.reduceToNat,Int.reduceLT,Int.reduceLE,Int.reduceEq,Int.reduceNe,Int.reduceNeg,ustrA,ti3,ti9,ti36,ti48,ca101,ca115,ca188,ca189,ca256,ca302,cf,Tryz.results302,hi]
    by_cases k0 : j1 = 0
    · simp only [zW,zX,zD,builtinA,isLeaf,const1,Nat.reduceAdd,Nat.reduceMul,Nat.reduceSub,Nat.reduceLT,Nat.reduceLeDiff,Nat.reduceEqDiff,Nat.reduceBEq,Nat.reduceBNe,reduceIte,reduceCtorEq,Int.reduceToNat,Int.reduceLT,Int.reduceLE,Int.reduceEq,Int.reduceNe,Int.reduceNeg,ustrA,ti3,ti9,ti36,ti48,ca101,ca115,ca188,ca189,ca256,ca302,cf,Tryz.results302,hi,decide_eq_true k0]
      refine ⟨by simp,?_⟩
      refine callK_intro (by simp only [zW,zX,zD,builtinA,isLeaf,const1,Nat.reduceAdd,Nat.reduceMul,Nat.reduceSub,Nat.reduceLT,Nat.reduceLeDiff,Nat.reduceEqDiff,Nat.reduceBEq,Nat.reduceBNe,reduceIte,reduceCtorEq,Int.reduceToNat,Int.reduceLT,Int.reduceLE,Int.reduceEq,Int.reduceNe,Int.reduceNeg,ustrA]; rfl) (spec_of bs (p + 1) [[116],[117],[118]] i _ (by simp; omega) (hgA _ _) (by omega) (by simp)) ?_ rfl
      rintro v A' ⟨s,rfl,hs,rfl⟩
      simp only [zW,zX,zD,builtinA,isLeaf,const1,Nat.reduceAdd,Nat.reduceMul,Nat.reduceSub,Nat.reduceLT,Nat.reduceLeDiff,Nat.reduceEqDiff,Nat.reduceBEq,Nat.reduceBNe,reduceIte,reduceCtorEq,Int.reduceToNat,Int.reduceLT,Int.reduceLE,Int.reduceEq,Int.reduceNe,Int.reduceNeg,ustrA,ti3,ti9,ti36,ti48,ca101,ca115,ca188,ca189,ca256,ca302,cf,Tryz.results302,hi]
      refine callK_intro (by simp only [zW,zX,zD,builtinA,isLeaf,const1,Nat.reduceAdd,Nat.reduceMul,Nat.reduceSub,Nat.reduceLT,Nat.reduceLeDiff,Nat.reduceEqDiff,Nat.reduceBEq,Nat.reduceBNe,reduceIte,reduceCtorEq,Int.reduceToNat,Int.reduceLT,Int.reduceLE,Int.reduceEq,Int.reduceNe,Int.reduceNeg,ustrA]; rfl) (spec_l1Name _ _ _) ?_ rfl; rintro v A' ⟨rfl,rfl⟩
      simp only [zW,zX,zD,builtinA,isLeaf,const1,Nat.reduceAdd,Nat.reduceMul,Nat.reduceSub,Nat.reduceLT,Nat.reduceLeDiff,Nat.reduceEqDiff,Nat.reduceBEq,Nat.reduceBNe,reduceIte,reduceCtorEq,Int.reduceToNat,Int.reduceLT,Int.reduceLE,Int.reduceEq,Int.reduceNe,Int.reduceNeg,ustrA,ti3,ti9,ti36,ti48,ca101,ca115,ca188,ca189,ca256,ca302,cf,Tryz.results302,hi,enc_length,enc_take,enc_drop,frzL_enc,enc_closed,Option.map_some]
      refine ⟨outer_set A _ i _ (rd_closed _ _ _),.nm [] s,p + 1 + 1,rfl,?_,?_,?_,?_,rfl⟩
      · simp at hs; rcases hs with rfl | rfl | rfl <;> rfl
      · simp [dep]
      · omega
      · omega
    · simp only [zW,zX,zD,builtinA,isLeaf,const1,Nat.reduceAdd,Nat.reduceMul,Nat.reduceSub,Nat.reduceLT,Nat.reduceLeDiff,Nat.reduceEqDiff,Nat.reduceBEq,Nat.reduceBNe,reduceIte,reduceCtorEq,Int.reduceToNat,Int.reduceLT,Int.reduceLE,Int.reduceEq,Int.reduceNe,Int.reduceNeg,ustrA,ti3,ti9,ti36,ti48,ca101,ca115,ca188,ca189,ca256,ca302,cf,Tryz.results302,hi,decide_eq_false k0]
      by_cases k1 : j1 = 1
      · simp only [zW,zX,zD,builtinA,isLeaf,const1,Nat.reduceAdd,Nat.reduceMul,Nat.reduceSub,Nat.reduceLT,Nat.reduceLeDiff,Nat.reduceEqDiff,Nat.reduceBEq,Nat.reduceBNe,reduceIte,reduceCtorEq,Int.reduceToNat,Int.reduceLT,Int.reduceLE,Int.reduceEq,Int.reduceNe,Int.reduceNeg,ustrA,ti3,ti9,ti36,ti48,ca101,ca115,ca188,ca189,ca256,ca302,cf,Tryz.results302,hi,decide_eq_true k1]
        refine ⟨by simp,?_⟩
        refine callK_intro (by simp only [zW,zX,zD,builtinA,isLeaf,const1,Nat.reduceAdd,Nat.reduceMul,Nat.reduceSub,Nat.reduceLT,Nat.reduceLeDiff,Nat.reduceEqDiff,Nat.reduceBEq,Nat.reduceBNe,reduceIte,reduceCtorEq,Int.reduceToNat,Int.reduceLT,Int.reduceLE,Int.reduceEq,Int.reduceNe,Int.reduceNeg,ustrA]; rfl) (spec_of bs (p + 1) [[65],[66]] i _ (by simp; omega) (hgA _ _) (by omega) (by simp)) ?_ rfl
        rintro v A' ⟨m,rfl,hm,rfl⟩
        simp only [zW,zX,zD,builtinA,isLeaf,const1,Nat.reduceAdd,Nat.reduceMul,Nat.reduceSub,Nat.reduceLT,Nat.reduceLeDiff,Nat.reduceEqDiff,Nat.reduceBEq,Nat.reduceBNe,reduceIte,reduceCtorEq,Int.reduceToNat,Int.reduceLT,Int.reduceLE,Int.reduceEq,Int.reduceNe,Int.reduceNeg,ustrA,ti3,ti9,ti36,ti48,ca101,ca115,ca188,ca189,ca256,ca302,cf,Tryz.results302,hi]
        refine ⟨by simp,?_⟩
        refine callK_intro (by simp only [zW,zX,zD,builtinA,isLeaf,const1,Nat.reduceAdd,Nat.reduceMul,Nat.reduceSub,Nat.reduceLT,Nat.reduceLeDiff,Nat.reduceEqDiff,Nat.reduceBEq,Nat.reduceBNe,reduceIte,reduceCtorEq,Int.reduceToNat,Int.reduceLT,Int.reduceLE,Int.reduceEq,Int.reduceNe,Int.reduceNeg,ustrA]; rfl) (spec_of bs (p + 1 + 1) [[116],[117]] i _ (by simp; omega) (hgA _ _) (by omega) (by simp)) ?_ rfl
        rintro v A' ⟨s,rfl,hs,rfl⟩
        simp only [zW,zX,zD,builtinA,isLeaf,const1,Nat.reduceAdd,Nat.reduceMul,Nat.reduceSub,Nat.reduceLT,Nat.reduceLeDiff,Nat.reduceEqDiff,Nat.reduceBEq,Nat.reduceBNe,reduceIte,reduceCtorEq,Int.reduceToNat,Int.reduceLT,Int.reduceLE,Int.reduceEq,Int.reduceNe,Int.reduceNeg,ustrA,ti3,ti9,ti36,ti48,ca101,ca115,ca188,ca189,ca256,ca302,cf,Tryz.results302,hi]
        refine callK_intro (by simp only [zW,zX,zD,builtinA,isLeaf,const1,Nat.reduceAdd,Nat.reduceMul,Nat.reduceSub,Nat.reduceLT,Nat.reduceLeDiff,Nat.reduceEqDiff,Nat.reduceBEq,Nat.reduceBNe,reduceIte,reduceCtorEq,Int.reduceToNat,Int.reduceLT,Int.reduceLE,Int.reduceEq,Int.reduceNe,Int.reduceNeg,ustrA]; rfl) (spec_l1Name _ _ _) ?_ rfl; rintro v A' ⟨rfl,rfl⟩
        simp only [zW,zX,zD,builtinA,isLeaf,const1,Nat.reduceAdd,Nat.reduceMul,Nat.reduceSub,Nat.reduceLT,Nat.reduceLeDiff,Nat.reduceEqDiff,Nat.reduceBEq,Nat.reduceBNe,reduceIte,reduceCtorEq,Int.reduceToNat,Int.reduceLT,Int.reduceLE,Int.reduceEq,Int.reduceNe,Int.reduceNeg,ustrA,ti3,ti9,ti36,ti48,ca101,ca115,ca188,ca189,ca256,ca302,cf,Tryz.results302,hi,enc_length,enc_take,enc_drop,frzL_enc,enc_closed,Option.map_some]
        refine ⟨outer_set A _ i _ (rd_closed _ _ _),.nm m s,p + 1 + 1 + 1,rfl,?_,?_,?_,?_,rfl⟩
        · simp at hs hm; rcases hs with rfl | rfl <;> rcases hm with rfl | rfl <;> rfl
        · simp [dep]
        · omega
        · omega
      · simp only [zW,zX,zD,builtinA,isLeaf,const1,Nat.reduceAdd,Nat.reduceMul,Nat.reduceSub,Nat.reduceLT,Nat.reduceLeDiff,Nat.reduceEqDiff,Nat.reduceBEq,Nat.reduceBNe,reduceIte,reduceCtorEq,Int.reduceToNat,Int.reduceLT,Int.reduceLE,Int.reduceEq,Int.reduceNe,Int.reduceNeg,ustrA,ti3,ti9,ti36,ti48,ca101,ca115,ca188,ca189,ca256,ca302,cf,Tryz.results302,hi,decide_eq_false k1]
        refine callK_intro (by simp only [zW,zX,zD,builtinA,isLeaf,const1,Nat.reduceAdd,Nat.reduceMul,Nat.reduceSub,Nat.reduceLT,Nat.reduceLeDiff,Nat.reduceEqDiff,Nat.reduceBEq,Nat.reduceBNe,reduceIte,reduceCtorEq,Int.reduceToNat,Int.reduceLT,Int.reduceLE,Int.reduceEq,Int.reduceNe,Int.reduceNeg,ustrA]; rfl) (spec_l1Num _) ?_ rfl; rintro v A' ⟨rfl,rfl⟩
        simp only [zW,zX,zD,builtinA,isLeaf,const1,Nat.reduceAdd,Nat.reduceMul,Nat.reduceSub,Nat.reduceLT,Nat.reduceLeDiff,Nat.reduceEqDiff,Nat.reduceBEq,Nat.reduceBNe,reduceIte,reduceCtorEq,Int.reduceToNat,Int.reduceLT,Int.reduceLE,Int.reduceEq,Int.reduceNe,Int.reduceNeg,ustrA,ti3,ti9,ti36,ti48,ca101,ca115,ca188,ca189,ca256,ca302,cf,Tryz.results302,hi,enc_length,enc_take,enc_drop,frzL_enc,enc_closed,Option.map_some]
        refine ⟨outer_set A _ i _ (rd_closed _ _ _),.num,p + 1,rfl,rfl,?_,?_,?_,rfl⟩
        · simp [dep]
        · omega
        · omega
  | succ n ih =>
    intro d p i A hi hA hn hd hp
    have hgA : ∀ X (B : List Box),(A.set i X ++ B).getD i .dead = X:=fun X B=>by rw [getD_app1 _ _ _ _ (by simpa using hi),getD_set1 hi]
    have h2p : 2 ^ (n + 1 + 2) = 2 * 2 ^ (n + 2):=by rw [Nat.pow_add 2 (n + 1) 2,Nat.pow_add 2 n 2,Nat.pow_succ]; omega
    have h2q : 4 ≤ 2 ^ (n + 2):=by have : 2 ^ 2 ≤ 2 ^ (n + 2):=Nat.pow_le_pow_right (by decide) (by omega); omega
    refine acalls_enter (cf:=cf 39 [0,1,4,11,13,14,20]) foll Tryz.func302 Tryz.ntmps302 (by simp [cf]) ?_
    simp only [Tryz.f302,EnterK_some,zW,zX,zD,builtinA,isLeaf,const1,Nat.reduceAdd,Nat.reduceMul,Nat.reduceSub,Nat.reduceLT,Nat.reduceLeDiff,Nat.reduceEqDiff,Nat.reduceBEq,Nat.reduceBNe,reduceIte,reduceCtorEq,Int.reduceToNat,Int.reduceLT,Int.reduceLE,Int.reduceEq,Int.reduceNe,Int.reduceNeg,ustrA,ti3,ti9,ti36,ti48,ca101,ca115,ca188,ca189,ca256,ca302,cf,Tryz.results302]
    by_cases h2 : d < 2
    · have e1 : decide (d < 2) = true:=decide_eq_true h2
      simp only [zW,zX,zD,builtinA,isLeaf,const1,Nat.reduceAdd,Nat.reduceMul,Nat.reduceSub,Nat.reduceLT,Nat.reduceLeDiff,Nat.reduceEqDiff,Nat.reduceBEq,Nat.reduceBNe,reduceIte,reduceCtorEq,Int.reduceToNat,Int.reduceLT,Int.reduceLE,Int.reduceEq,Int.reduceNe,Int.reduceNeg,ustrA,ti3,ti9,ti36,ti48,ca101,ca115,ca188,ca189,ca256,ca302,cf,Tryz.results302,hi,e1]
      refine callK_intro (by simp only [zW,zX,zD,builtinA,isLeaf,const1,Nat.reduceAdd,Nat.reduceMul,Nat.reduceSub,Nat.reduceLT,Nat.reduceLeDiff,Nat.reduceEqDiff,Nat.reduceBEq,Nat.reduceBNe,reduceIte,reduceCtorEq,Int.reduceToNat,Int.reduceLT,Int.reduceLE,Int.reduceEq,Int.reduceNe,Int.reduceNeg,ustrA]; rfl) (spec_pick bs p 4 i _ (by simp; omega) (by simp only [getD_app1 _ _ _ _ hi,hA]) (by omega) (by omega)) ?_ rfl
      rintro v A' ⟨j1,rfl,h0,h1,rfl⟩
      simp only [zW,zX,zD,builtinA,isLeaf,const1,Nat.reduceAdd,Nat.reduceMul,Nat.reduceSub,Nat.reduceLT,Nat.reduceLeDiff,Nat.reduceEqDiff,Nat.reduceBEq,Nat.reduceBNe,reduceIte,reduceCtorEq,Int.reduceToNat,Int.reduceLT,Int.reduceLE,Int.reduceEq,Int.reduceNe,Int.reduceNeg,ustrA,ti3,ti9,ti36,ti48,ca101,ca115,ca188,ca189,ca256,ca302,cf,Tryz.results302,hi]
      by_cases k0 : j1 = 0
      · simp only [zW,zX,zD,builtinA,isLeaf,const1,Nat.reduceAdd,Nat.reduceMul,Nat.reduceSub,Nat.reduceLT,Nat.reduceLeDiff,Nat.reduceEqDiff,Nat.reduceBEq,Nat.reduceBNe,reduceIte,reduceCtorEq,Int.reduceToNat,Int.reduceLT,Int.reduceLE,Int.reduceEq,Int.reduceNe,Int.reduceNeg,ustrA,ti3,ti9,ti36,ti48,ca101,ca115,ca188,ca189,ca256,ca302,cf,Tryz.results302,hi,decide_eq_true k0]
        refine ⟨by simp,?_⟩
        refine callK_intro (by simp only [zW,zX,zD,builtinA,isLeaf,const1,Nat.reduceAdd,Nat.reduceMul,Nat.reduceSub,Nat.reduceLT,Nat.reduceLeDiff,Nat.reduceEqDiff,Nat.reduceBEq,Nat.reduceBNe,reduceIte,reduceCtorEq,Int.reduceToNat,Int.reduceLT,Int.reduceLE,Int.reduceEq,Int.reduceNe,Int.reduceNeg,ustrA]; rfl) (spec_of bs (p + 1) [[116],[117],[118]] i _ (by simp; omega) (hgA _ _) (by omega) (by simp)) ?_ rfl
        rintro v A' ⟨s,rfl,hs,rfl⟩
        simp only [zW,zX,zD,builtinA,isLeaf,const1,Nat.reduceAdd,Nat.reduceMul,Nat.reduceSub,Nat.reduceLT,Nat.reduceLeDiff,Nat.reduceEqDiff,Nat.reduceBEq,Nat.reduceBNe,reduceIte,reduceCtorEq,Int.reduceToNat,Int.reduceLT,Int.reduceLE,Int.reduceEq,Int.reduceNe,Int.reduceNeg,ustrA,ti3,ti9,ti36,ti48,ca101,ca115,ca188,ca189,ca256,ca302,cf,Tryz.results302,hi]
        refine callK_intro (by simp only [zW,zX,zD,builtinA,isLeaf,const1,Nat.reduceAdd,Nat.reduceMul,Nat.reduceSub,Nat.reduceLT,Nat.reduceLeDiff,Nat.reduceEqDiff,Nat.reduceBEq,Nat.reduceBNe,reduceIte,reduceCtorEq,Int.reduceToNat,Int.reduceLT,Int.reduceLE,Int.reduceEq,Int.reduceNe,Int.reduceNeg,ustrA]; rfl) (spec_l1Name _ _ _) ?_ rfl; rintro v A' ⟨rfl,rfl⟩
        simp only [zW,zX,zD,builtinA,isLeaf,const1,Nat.reduceAdd,Nat.reduceMul,Nat.reduceSub,Nat.reduceLT,Nat.reduceLeDiff,Nat.reduceEqDiff,Nat.reduceBEq,Nat.reduceBNe,reduceIte,reduceCtorEq,Int.reduceToNat,Int.reduceLT,Int.reduceLE,Int.reduceEq,Int.reduceNe,Int.reduceNeg,ustrA,ti3,ti9,ti36,ti48,ca101,ca115,ca188,ca189,ca256,ca302,cf,Tryz.results302,hi,enc_length,enc_take,enc_drop,frzL_enc,enc_closed,Option.map_some]
        refine ⟨outer_set A _ i _ (rd_closed _ _ _),.nm [] s,p + 1 + 1,rfl,?_,?_,?_,?_,rfl⟩
        · simp at hs; rcases hs with rfl | rfl | rfl <;> rfl
        · simp [dep]
        · omega
        · omega
      · simp only [zW,zX,zD,builtinA,isLeaf,const1,Nat.reduceAdd,Nat.reduceMul,Nat.reduceSub,Nat.reduceLT,Nat.reduceLeDiff,Nat.reduceEqDiff,Nat.reduceBEq,Nat.reduceBNe,reduceIte,reduceCtorEq,Int.reduceToNat,Int.reduceLT,Int.reduceLE,Int.reduceEq,Int.reduceNe,Int.reduceNeg,ustrA,ti3,ti9,ti36,ti48,ca101,ca115,ca188,ca189,ca256,ca302,cf,Tryz.results302,hi,decide_eq_false k0]
        by_cases k1 : j1 = 1
        · simp only [zW,zX,zD,builtinA,isLeaf,const1,Nat.reduceAdd,Nat.reduceMul,Nat.reduceSub,Nat.reduceLT,Nat.reduceLeDiff,Nat.reduceEqDiff,Nat.reduceBEq,Nat.reduceBNe,reduceIte,reduceCtorEq,Int.reduceToNat,Int.reduceLT,Int.reduceLE,Int.reduceEq,Int.reduceNe,Int.reduceNeg,ustrA,ti3,ti9,ti36,ti48,ca101,ca115,ca188,ca189,ca256,ca302,cf,Tryz.results302,hi,decide_eq_true k1]
          refine ⟨by simp,?_⟩
          refine callK_intro (by simp only [zW,zX,zD,builtinA,isLeaf,const1,Nat.reduceAdd,Nat.reduceMul,Nat.reduceSub,Nat.reduceLT,Nat.reduceLeDiff,Nat.reduceEqDiff,Nat.reduceBEq,Nat.reduceBNe,reduceIte,reduceCtorEq,Int.reduceToNat,Int.reduceLT,Int.reduceLE,Int.reduceEq,Int.reduceNe,Int.reduceNeg,ustrA]; rfl) (spec_of bs (p + 1) [[65],[66]] i _ (by simp; omega) (hgA _ _) (by omega) (by simp)) ?_ rfl
          rintro v A' ⟨m,rfl,hm,rfl⟩
          simp only [zW,zX,zD,builtinA,isLeaf,const1,Nat.reduceAdd,Nat.reduceMul,Nat.reduceSub,Nat.reduceLT,Nat.reduceLeDiff,Nat.reduceEqDiff,Nat.reduceBEq,Nat.reduceBNe,reduceIte,reduceCtorEq,Int.reduceToNat,Int.reduceLT,Int.reduceLE,Int.reduceEq,Int.reduceNe,Int.reduceNeg,ustrA,ti3,ti9,ti36,ti48,ca101,ca115,ca188,ca189,ca256,ca302,cf,Tryz.results302,hi]
          refine ⟨by simp,?_⟩
          refine callK_intro (by simp only [zW,zX,zD,builtinA,isLeaf,const1,Nat.reduceAdd,Nat.reduceMul,Nat.reduceSub,Nat.reduceLT,Nat.reduceLeDiff,Nat.reduceEqDiff,Nat.reduceBEq,Nat.reduceBNe,reduceIte,reduceCtorEq,Int.reduceToNat,Int.reduceLT,Int.reduceLE,Int.reduceEq,Int.reduceNe,Int.reduceNeg,ustrA]; rfl) (spec_of bs (p + 1 + 1) [[116],[117]] i _ (by simp; omega) (hgA _ _) (by omega) (by simp)) ?_ rfl
          rintro v A' ⟨s,rfl,hs,rfl⟩
          simp only [zW,zX,zD,builtinA,isLeaf,const1,Nat.reduceAdd,Nat.reduceMul,Nat.reduceSub,Nat.reduceLT,Nat.reduceLeDiff,Nat.reduceEqDiff,Nat.reduceBEq,Nat.reduceBNe,reduceIte,reduceCtorEq,Int.reduceToNat,Int.reduceLT,Int.reduceLE,Int.reduceEq,Int.reduceNe,Int.reduceNeg,ustrA,ti3,ti9,ti36,ti48,ca101,ca115,ca188,ca189,ca256,ca302,cf,Tryz.results302,hi]
          refine callK_intro (by simp only [zW,zX,zD,builtinA,isLeaf,const1,Nat.reduceAdd,Nat.reduceMul,Nat.reduceSub,Nat.reduceLT,Nat.reduceLeDiff,Nat.reduceEqDiff,Nat.reduceBEq,Nat.reduceBNe,reduceIte,reduceCtorEq,Int.reduceToNat,Int.reduceLT,Int.reduceLE,Int.reduceEq,Int.reduceNe,Int.reduceNeg,ustrA]; rfl) (spec_l1Name _ _ _) ?_ rfl; rintro v A' ⟨rfl,rfl⟩
          simp only [zW,zX,zD,builtinA,isLeaf,const1,Nat.reduceAdd,Nat.reduceMul,Nat.reduceSub,Nat.reduceLT,Nat.reduceLeDiff,Nat.reduceEqDiff,Nat.reduceBEq,Nat.reduceBNe,reduceIte,reduceCtorEq,Int.reduceToNat,Int.reduceLT,Int.reduceLE,Int.reduceEq,Int.reduceNe,Int.reduceNeg,ustrA,ti3,ti9,ti36,ti48,ca101,ca115,ca188,ca189,ca256,ca302,cf,Tryz.results302,hi,enc_length,enc_take,enc_drop,frzL_enc,enc_closed,Option.map_some]
          refine ⟨outer_set A _ i _ (rd_closed _ _ _),.nm m s,p + 1 + 1 + 1,rfl,?_,?_,?_,?_,rfl⟩
          · simp at hs hm; rcases hs with rfl | rfl <;> rcases hm with rfl | rfl <;> rfl
          · simp [dep]
          · omega
          · omega
        · simp only [zW,zX,zD,builtinA,isLeaf,const1,Nat.reduceAdd,Nat.reduceMul,Nat.reduceSub,Nat.reduceLT,Nat.reduceLeDiff,Nat.reduceEqDiff,Nat.reduceBEq,Nat.reduceBNe,reduceIte,reduceCtorEq,Int.reduceToNat,Int.reduceLT,Int.reduceLE,Int.reduceEq,Int.reduceNe,Int.reduceNeg,ustrA,ti3,ti9,ti36,ti48,ca101,ca115,ca188,ca189,ca256,ca302,cf,Tryz.results302,hi,decide_eq_false k1]
          refine callK_intro (by simp only [zW,zX,zD,builtinA,isLeaf,const1,Nat.reduceAdd,Nat.reduceMul,Nat.reduceSub,Nat.reduceLT,Nat.reduceLeDiff,Nat.reduceEqDiff,Nat.reduceBEq,Nat.reduceBNe,reduceIte,reduceCtorEq,Int.reduceToNat,Int.reduceLT,Int.reduceLE,Int.reduceEq,Int.reduceNe,Int.reduceNeg,ustrA]; rfl) (spec_l1Num _) ?_ rfl; rintro v A' ⟨rfl,rfl⟩
          simp only [zW,zX,zD,builtinA,isLeaf,const1,Nat.reduceAdd,Nat.reduceMul,Nat.reduceSub,Nat.reduceLT,Nat.reduceLeDiff,Nat.reduceEqDiff,Nat.reduceBEq,Nat.reduceBNe,reduceIte,reduceCtorEq,Int.reduceToNat,Int.reduceLT,Int.reduceLE,Int.reduceEq,Int.reduceNe,Int.reduceNeg,ustrA,ti3,ti9,ti36,ti48,ca101,ca115,ca188,ca189,ca256,ca302,cf,Tryz.results302,hi,enc_length,enc_take,enc_drop,frzL_enc,enc_closed,Option.map_some]
          refine ⟨outer_set A _ i _ (rd_closed _ _ _),.num,p + 1,rfl,rfl,?_,?_,?_,rfl⟩
          · simp [dep]
          · omega
          · omega
    · have e1 : decide (d < 2) = false:=decide_eq_false h2
      simp only [zW,zX,zD,builtinA,isLeaf,const1,Nat.reduceAdd,Nat.reduceMul,Nat.reduceSub,Nat.reduceLT,Nat.reduceLeDiff,Nat.reduceEqDiff,Nat.reduceBEq,Nat.reduceBNe,reduceIte,reduceCtorEq,Int.reduceToNat,Int.reduceLT,Int.reduceLE,Int.reduceEq,Int.reduceNe,Int.reduceNeg,ustrA,ti3,ti9,ti36,ti48,ca101,ca115,ca188,ca189,ca256,ca302,cf,Tryz.results302,hi,e1]
      refine callK_intro (by simp only [zW,zX,zD,builtinA,isLeaf,const1,Nat.reduceAdd,Nat.reduceMul,Nat.reduceSub,Nat.reduceLT,Nat.reduceLeDiff,Nat.reduceEqDiff,Nat.reduceBEq,Nat.reduceBNe,reduceIte,reduceCtorEq,Int.reduceToNat,Int.reduceLT,Int.reduceLE,Int.reduceEq,Int.reduceNe,Int.reduceNeg,ustrA]; rfl) (spec_pick bs p 3 i _ (by simp; omega) (by simp only [getD_app1 _ _ _ _ hi,hA]) (by omega) (by omega)) ?_ rfl
      rintro v A' ⟨j0,rfl,h0,h1,rfl⟩
      by_cases k9 : j0 = 0
      · simp only [zW,zX,zD,builtinA,isLeaf,const1,Nat.reduceAdd,Nat.reduceMul,Nat.reduceSub,Nat.reduceLT,Nat.reduceLeDiff,Nat.reduceEqDiff,Nat.reduceBEq,Nat.reduceBNe,reduceIte,reduceCtorEq,Int.reduceToNat,Int.reduceLT,Int.reduceLE,Int.reduceEq,Int.reduceNe,Int.reduceNeg,ustrA,ti3,ti9,ti36,ti48,ca101,ca115,ca188,ca189,ca256,ca302,cf,Tryz.results302,hi,decide_eq_true k9]
        refine callK_intro (by simp only [zW,zX,zD,builtinA,isLeaf,const1,Nat.reduceAdd,Nat.reduceMul,Nat.reduceSub,Nat.reduceLT,Nat.reduceLeDiff,Nat.reduceEqDiff,Nat.reduceBEq,Nat.reduceBNe,reduceIte,reduceCtorEq,Int.reduceToNat,Int.reduceLT,Int.reduceLE,Int.reduceEq,Int.reduceNe,Int.reduceNeg,ustrA]; rfl) (spec_pick bs (p + 1) 4 i _ (by simp; omega) (hgA _ _) (by omega) (by omega)) ?_ rfl
        rintro v A' ⟨j1,rfl,h0,h1,rfl⟩
        simp only [zW,zX,zD,builtinA,isLeaf,const1,Nat.reduceAdd,Nat.reduceMul,Nat.reduceSub,Nat.reduceLT,Nat.reduceLeDiff,Nat.reduceEqDiff,Nat.reduceBEq,Nat.reduceBNe,reduceIte,reduceCtorEq,Int.reduceToNat,Int.reduceLT,Int.reduceLE,Int.reduceEq,Int.reduceNe,Int.reduceNeg,ustrA,ti3,ti9,ti36,ti48,ca101,ca115,ca188,ca189,ca256,ca302,cf,Tryz.results302,hi]
        by_cases k0 : j1 = 0
        · simp only [zW,zX,zD,builtinA,isLeaf,const1,Nat.reduceAdd,Nat.reduceMul,Nat.reduceSub,Nat.reduceLT,Nat.reduceLeDiff,Nat.reduceEqDiff,Nat.reduceBEq,Nat.reduceBNe,reduceIte,reduceCtorEq,Int.reduceToNat,Int.reduceLT,Int.reduceLE,Int.reduceEq,Int.reduceNe,Int.reduceNeg,ustrA,ti3,ti9,ti36,ti48,ca101,ca115,ca188,ca189,ca256,ca302,cf,Tryz.results302,hi,decide_eq_true k0]
          refine ⟨by simp,?_⟩
          refine callK_intro (by simp only [zW,zX,zD,builtinA,isLeaf,const1,Nat.reduceAdd,Nat.reduceMul,Nat.reduceSub,Nat.reduceLT,Nat.reduceLeDiff,Nat.reduceEqDiff,Nat.reduceBEq,Nat.reduceBNe,reduceIte,reduceCtorEq,Int.reduceToNat,Int.reduceLT,Int.reduceLE,Int.reduceEq,Int.reduceNe,Int.reduceNeg,ustrA]; rfl) (spec_of bs ((p + 1) + 1) [[116],[117],[118]] i _ (by simp; omega) (hgA _ _) (by omega) (by simp)) ?_ rfl
          rintro v A' ⟨s,rfl,hs,rfl⟩
          simp only [zW,zX,zD,builtinA,isLeaf,const1,Nat.reduceAdd,Nat.reduceMul,Nat.reduceSub,Nat.reduceLT,Nat.reduceLeDiff,Nat.reduceEqDiff,Nat.reduceBEq,Nat.reduceBNe,reduceIte,reduceCtorEq,Int.reduceToNat,Int.reduceLT,Int.reduceLE,Int.reduceEq,Int.reduceNe,Int.reduceNeg,ustrA,ti3,ti9,ti36,ti48,ca101,ca115,ca188,ca189,ca256,ca302,cf,Tryz.results302,hi]
          refine callK_intro (by simp only [zW,zX,zD,builtinA,isLeaf,const1,Nat.reduceAdd,Nat.reduceMul,Nat.reduceSub,Nat.reduceLT,Nat.reduceLeDiff,Nat.reduceEqDiff,Nat.reduceBEq,Nat.reduceBNe,reduceIte,reduceCtorEq,Int.reduceToNat,Int.reduceLT,Int.reduceLE,Int.reduceEq,Int.reduceNe,Int.reduceNeg,ustrA]; rfl) (spec_l1Name _ _ _) ?_ rfl; rintro v A' ⟨rfl,rfl⟩
          simp only [zW,zX,zD,builtinA,isLeaf,const1,Nat.reduceAdd,Nat.reduceMul,Nat.reduceSub,Nat.reduceLT,Nat.reduceLeDiff,Nat.reduceEqDiff,Nat.reduceBEq,Nat.reduceBNe,reduceIte,reduceCtorEq,Int.reduceToNat,Int.reduceLT,Int.reduceLE,Int.reduceEq,Int.reduceNe,Int.reduceNeg,ustrA,ti3,ti9,ti36,ti48,ca101,ca115,ca188,ca189,ca256,ca302,cf,Tryz.results302,hi,enc_length,enc_take,enc_drop,frzL_enc,enc_closed,Option.map_some]
          refine ⟨outer_set A _ i _ (rd_closed _ _ _),.nm [] s,(p + 1) + 1 + 1,rfl,?_,?_,?_,?_,rfl⟩
          · simp at hs; rcases hs with rfl | rfl | rfl <;> rfl
          · simp [dep]
          · omega
          · omega
        · simp only [zW,zX,zD,builtinA,isLeaf,const1,Nat.reduceAdd,Nat.reduceMul,Nat.reduceSub,Nat.reduceLT,Nat.reduceLeDiff,Nat.reduceEqDiff,Nat.reduceBEq,Nat.reduceBNe,reduceIte,reduceCtorEq,Int.reduceToNat,Int.reduceLT,Int.reduceLE,Int.reduceEq,Int.reduceNe,Int.reduceNeg,ustrA,ti3,ti9,ti36,ti48,ca101,ca115,ca188,ca189,ca256,ca302,cf,Tryz.results302,hi,decide_eq_false k0]
          by_cases k1 : j1 = 1
          · simp only [zW,zX,zD,builtinA,isLeaf,const1,Nat.reduceAdd,Nat.reduceMul,Nat.reduceSub,Nat.reduceLT,Nat.reduceLeDiff,Nat.reduceEqDiff,Nat.reduceBEq,Nat.reduceBNe,reduceIte,reduceCtorEq,Int.reduceToNat,Int.reduceLT,Int.reduceLE,Int.reduceEq,Int.reduceNe,Int.reduceNeg,ustrA,ti3,ti9,ti36,ti48,ca101,ca115,ca188,ca189,ca256,ca302,cf,Tryz.results302,hi,decide_eq_true k1]
            refine ⟨by simp,?_⟩
            refine callK_intro (by simp only [zW,zX,zD,builtinA,isLeaf,const1,Nat.reduceAdd,Nat.reduceMul,Nat.reduceSub,Nat.reduceLT,Nat.reduceLeDiff,Nat.reduceEqDiff,Nat.reduceBEq,Nat.reduceBNe,reduceIte,reduceCtorEq,Int.reduceToNat,Int.reduceLT,Int.reduceLE,Int.reduceEq,Int.reduceNe,Int.reduceNeg,ustrA]; rfl) (spec_of bs ((p + 1) + 1) [[65],[66]] i _ (by simp; omega) (hgA _ _) (by omega) (by simp)) ?_ rfl
            rintro v A' ⟨m,rfl,hm,rfl⟩
            simp only [zW,zX,zD,builtinA,isLeaf,const1,Nat.reduceAdd,Nat.reduceMul,Nat.reduceSub,Nat.reduceLT,Nat.reduceLeDiff,Nat.reduceEqDiff,Nat.reduceBEq,Nat.reduceBNe,reduceIte,reduceCtorEq,Int.reduceToNat,Int.reduceLT,Int.reduceLE,Int.reduceEq,Int.reduceNe,Int.reduceNeg,ustrA,ti3,ti9,ti36,ti48,ca101,ca115,ca188,ca189,ca256,ca302,cf,Tryz.results302,hi]
            refine ⟨by simp,?_⟩
            refine callK_intro (by simp only [zW,zX,zD,builtinA,isLeaf,const1,Nat.reduceAdd,Nat.reduceMul,Nat.reduceSub,Nat.reduceLT,Nat.reduceLeDiff,Nat.reduceEqDiff,Nat.reduceBEq,Nat.reduceBNe,reduceIte,reduceCtorEq,Int.reduceToNat,Int.reduceLT,Int.reduceLE,Int.reduceEq,Int.reduceNe,Int.reduceNeg,ustrA]; rfl) (spec_of bs ((p + 1) + 1 + 1) [[116],[117]] i _ (by simp; omega) (hgA _ _) (by omega) (by simp)) ?_ rfl
            rintro v A' ⟨s,rfl,hs,rfl⟩
            simp only [zW,zX,zD,builtinA,isLeaf,const1,Nat.reduceAdd,Nat.reduceMul,Nat.reduceSub,Nat.reduceLT,Nat.reduceLeDiff,Nat.reduceEqDiff,Nat.reduceBEq,Nat.reduceBNe,reduceIte,reduceCtorEq,Int.reduceToNat,Int.reduceLT,Int.reduceLE,Int.reduceEq,Int.reduceNe,Int.reduceNeg,ustrA,ti3,ti9,ti36,ti48,ca101,ca115,ca188,ca189,ca256,ca302,cf,Tryz.results302,hi]
            refine callK_intro (by simp only [zW,zX,zD,builtinA,isLeaf,const1,Nat.reduceAdd,Nat.reduceMul,Nat.reduceSub,Nat.reduceLT,Nat.reduceLeDiff,Nat.reduceEqDiff,Nat.reduceBEq,Nat.reduceBNe,reduceIte,reduceCtorEq,Int.reduceToNat,Int.reduceLT,Int.reduceLE,Int.reduceEq,Int.reduceNe,Int.reduceNeg,ustrA]; rfl) (spec_l1Name _ _ _) ?_ rfl; rintro v A' ⟨rfl,rfl⟩
            simp only [zW,zX,zD,builtinA,isLeaf,const1,Nat.reduceAdd,Nat.reduceMul,Nat.reduceSub,Nat.reduceLT,Nat.reduceLeDiff,Nat.reduceEqDiff,Nat.reduceBEq,Nat.reduceBNe,reduceIte,reduceCtorEq,Int.reduceToNat,Int.reduceLT,Int.reduceLE,Int.reduceEq,Int.reduceNe,Int.reduceNeg,ustrA,ti3,ti9,ti36,ti48,ca101,ca115,ca188,ca189,ca256,ca302,cf,Tryz.results302,hi,enc_length,enc_take,enc_drop,frzL_enc,enc_closed,Option.map_some]
            refine ⟨outer_set A _ i _ (rd_closed _ _ _),.nm m s,(p + 1) + 1 + 1 + 1,rfl,?_,?_,?_,?_,rfl⟩
            · simp at hs hm; rcases hs with rfl | rfl <;> rcases hm with rfl | rfl <;> rfl
            · simp [dep]
            · omega
            · omega
          · simp only [zW,zX,zD,builtinA,isLeaf,const1,Nat.reduceAdd,Nat.reduceMul,Nat.reduceSub,Nat.reduceLT,Nat.reduceLeDiff,Nat.reduceEqDiff,Nat.reduceBEq,Nat.reduceBNe,reduceIte,reduceCtorEq,Int.reduceToNat,Int.reduceLT,Int.reduceLE,Int.reduceEq,Int.reduceNe,Int.reduceNeg,ustrA,ti3,ti9,ti36,ti48,ca101,ca115,ca188,ca189,ca256,ca302,cf,Tryz.results302,hi,decide_eq_false k1]
            refine callK_intro (by simp only [zW,zX,zD,builtinA,isLeaf,const1,Nat.reduceAdd,Nat.reduceMul,Nat.reduceSub,Nat.reduceLT,Nat.reduceLeDiff,Nat.reduceEqDiff,Nat.reduceBEq,Nat.reduceBNe,reduceIte,reduceCtorEq,Int.reduceToNat,Int.reduceLT,Int.reduceLE,Int.reduceEq,Int.reduceNe,Int.reduceNeg,ustrA]; rfl) (spec_l1Num _) ?_ rfl; rintro v A' ⟨rfl,rfl⟩
            simp only [zW,zX,zD,builtinA,isLeaf,const1,Nat.reduceAdd,Nat.reduceMul,Nat.reduceSub,Nat.reduceLT,Nat.reduceLeDiff,Nat.reduceEqDiff,Nat.reduceBEq,Nat.reduceBNe,reduceIte,reduceCtorEq,Int.reduceToNat,Int.reduceLT,Int.reduceLE,Int.reduceEq,Int.reduceNe,Int.reduceNeg,ustrA,ti3,ti9,ti36,ti48,ca101,ca115,ca188,ca189,ca256,ca302,cf,Tryz.results302,hi,enc_length,enc_take,enc_drop,frzL_enc,enc_closed,Option.map_some]
            refine ⟨outer_set A _ i _ (rd_closed _ _ _),.num,(p + 1) + 1,rfl,rfl,?_,?_,?_,rfl⟩
            · simp [dep]
            · omega
            · omega
      · have hw : IntKind.i64.wrap (d - 1) = d - 1:=wrap64 (by omega) (by omega)
        simp only [zW,zX,zD,builtinA,isLeaf,const1,Nat.reduceAdd,Nat.reduceMul,Nat.reduceSub,Nat.reduceLT,Nat.reduceLeDiff,Nat.reduceEqDiff,Nat.reduceBEq,Nat.reduceBNe,reduceIte,reduceCtorEq,Int.reduceToNat,Int.reduceLT,Int.reduceLE,Int.reduceEq,Int.reduceNe,Int.reduceNeg,ustrA,ti3,ti9,ti36,ti48,ca101,ca115,ca188,ca189,ca256,ca302,cf,Tryz.results302,hi,decide_eq_false k9,hw]
        refine callK_intro (by simp only [zW,zX,zD,builtinA,isLeaf,const1,Nat.reduceAdd,Nat.reduceMul,Nat.reduceSub,Nat.reduceLT,Nat.reduceLeDiff,Nat.reduceEqDiff,Nat.reduceBEq,Nat.reduceBNe,reduceIte,reduceCtorEq,Int.reduceToNat,Int.reduceLT,Int.reduceLE,Int.reduceEq,Int.reduceNe,Int.reduceNeg,ustrA]; rfl) (ih (d - 1) (p + 1) i _ (by simp; omega) (hgA _ _) (by omega) (by omega) (by omega)) ?_ rfl
        rintro v A' ⟨va,p1,rfl,hva,hda,hp1,hp2,rfl⟩
        simp only [zW,zX,zD,builtinA,isLeaf,const1,Nat.reduceAdd,Nat.reduceMul,Nat.reduceSub,Nat.reduceLT,Nat.reduceLeDiff,Nat.reduceEqDiff,Nat.reduceBEq,Nat.reduceBNe,reduceIte,reduceCtorEq,Int.reduceToNat,Int.reduceLT,Int.reduceLE,Int.reduceEq,Int.reduceNe,Int.reduceNeg,ustrA,ti3,ti9,ti36,ti48,ca101,ca115,ca188,ca189,ca256,ca302,cf,Tryz.results302,hi,hw]
        refine callK_intro (by simp only [zW,zX,zD,builtinA,isLeaf,const1,Nat.reduceAdd,Nat.reduceMul,Nat.reduceSub,Nat.reduceLT,Nat.reduceLeDiff,Nat.reduceEqDiff,Nat.reduceBEq,Nat.reduceBNe,reduceIte,reduceCtorEq,Int.reduceToNat,Int.reduceLT,Int.reduceLE,Int.reduceEq,Int.reduceNe,Int.reduceNeg,ustrA]; rfl) (ih (d - 1) p1 i _ (by simp; omega) (hgA _ _) (by omega) (by omega) (by omega)) ?_ rfl
        rintro v A' ⟨vb,p2,rfl,hvb,hdb,hp3,hp4,rfl⟩
        simp only [zW,zX,zD,builtinA,isLeaf,const1,Nat.reduceAdd,Nat.reduceMul,Nat.reduceSub,Nat.reduceLT,Nat.reduceLeDiff,Nat.reduceEqDiff,Nat.reduceBEq,Nat.reduceBNe,reduceIte,reduceCtorEq,Int.reduceToNat,Int.reduceLT,Int.reduceLE,Int.reduceEq,Int.reduceNe,Int.reduceNeg,ustrA,ti3,ti9,ti36,ti48,ca101,ca115,ca188,ca189,ca256,ca302,cf,Tryz.results302,hi]
        refine callK_intro (by simp only [zW,zX,zD,builtinA,isLeaf,const1,Nat.reduceAdd,Nat.reduceMul,Nat.reduceSub,Nat.reduceLT,Nat.reduceLeDiff,Nat.reduceEqDiff,Nat.reduceBEq,Nat.reduceBNe,reduceIte,reduceCtorEq,Int.reduceToNat,Int.reduceLT,Int.reduceLE,Int.reduceEq,Int.reduceNe,Int.reduceNeg,ustrA,frzL_enc,Option.map_some]; rfl) (spec_l1Fun (toTy va) (toTy vb) _) ?_ rfl; rintro v A' ⟨rfl,rfl⟩
        simp only [zW,zX,zD,builtinA,isLeaf,const1,Nat.reduceAdd,Nat.reduceMul,Nat.reduceSub,Nat.reduceLT,Nat.reduceLeDiff,Nat.reduceEqDiff,Nat.reduceBEq,Nat.reduceBNe,reduceIte,reduceCtorEq,Int.reduceToNat,Int.reduceLT,Int.reduceLE,Int.reduceEq,Int.reduceNe,Int.reduceNeg,ustrA,ti3,ti9,ti36,ti48,ca101,ca115,ca188,ca189,ca256,ca302,cf,Tryz.results302,hi,enc_length,enc_take,enc_drop,frzL_enc,enc_closed,Option.map_some]
        refine ⟨outer_set A _ i _ (rd_closed _ _ _),.fn va vb,p2,rfl,by simp [okV,hva,hvb],?_,?_,?_,rfl⟩
        · simp only [dep]; omega
        · omega
        · omega
end Go.Proofs.YtnjdbgiincliaaaGreat
/- Copies of types. -/
set_option linter.unusedVariables false
set_option linter.unusedSimpArgs false
namespace Go.Proofs.YtnjdbgiincliaaaGreat
open Go.Abs
set_option maxRecDepth 100000 in
theorem spec_l1Copy (τ : Ty) (hτ : sz τ ≤ 1048576) : ∀ (A : List Box),ACalls Tryz.prog 204 [.agg (enc τ)] A (fun r A'=>r = .agg (enc τ) ∧ A' = A):=by
  induction τ using Ty.ind with
  | h k m n ks ih =>
    intro A
    have hks : ks.length ≤ 1048576:=by rw [sz] at hτ; omega
    have hok : ∀ t ∈ ks,sz t ≤ 1048576:=fun t ht=>by rw [sz] at hτ; have:=szs_mem ht; omega
    rw [enc]
    refine acalls_enter (cf:=cf 31 [0,1,2,3,4,16]) foll Tryz.func204 Tryz.ntmps204 (by simp [cf]) ?_
    simp only [Tryz.f204,EnterK_some,zW,zX,zD,builtinA,isLeaf,const1,Nat.reduceAdd,Nat.reduceMul,Nat.reduceSub,Nat.reduceLT,Nat.reduceLeDiff,Nat.reduceEqDiff,Nat.reduceBEq,Nat.reduceBNe,reduceIte,reduceCtorEq,Int.reduceToNat,Int.reduceLT,Int.reduceLE,Int.reduceEq,Int.reduceNe,Int.reduceNeg,ustrA,ti3,ti9,ti34,ti36,ca204,cf,Tryz.results204]
    refine aloop_intro [1,2,3,4] (fun e A'=>∃ i B x,i ≤ ks.length ∧ e = [(1,.ptr A.length 0),(2,.ptr (A.length + 1) 0),(3,.ptr (A.length + 2) 0),(4,.int .i64 i)] ∧ A' = A ++ (.cells [.int .i64 k,.str m,.str n,.slice (encs ks)] :: .cells [.int .i64 0,.str [],.str [],.nils] :: .cells [.int .i64 k,.str m,.str n,x] :: B) ∧
      ((i = 0 ∧ x = .nils ∧ B = []) ∨ (∃ j,x = .own (A.length + (j + 3)) ∧ j < B.length ∧ B.getD j .dead = .row 4 (encs (ks.take i)) 0))) (fun e _=>ks.length - (intOf (Abs.look 4 e)).toNat) ?_ ?_
    · simp only [zW,zX,zD,builtinA,isLeaf,const1,Nat.reduceAdd,Nat.reduceMul,Nat.reduceSub,Nat.reduceLT,Nat.reduceLeDiff,Nat.reduceEqDiff,Nat.reduceBEq,Nat.reduceBNe,reduceIte,reduceCtorEq,Int.reduceToNat,Int.reduceLT,Int.reduceLE,Int.reduceEq,Int.reduceNe,Int.reduceNeg,ustrA,ti3,ti9,ti34,ti36,ca204,cf,Tryz.results204]
      exact ⟨0,[],.nils,by omega,rfl,rfl,.inl ⟨rfl,rfl,rfl⟩⟩
    · rintro e A' ⟨i,B,x,hi,rfl,rfl,hx⟩
      simp only [zW,zX,zD,builtinA,isLeaf,const1,Nat.reduceAdd,Nat.reduceMul,Nat.reduceSub,Nat.reduceLT,Nat.reduceLeDiff,Nat.reduceEqDiff,Nat.reduceBEq,Nat.reduceBNe,reduceIte,reduceCtorEq,Int.reduceToNat,Int.reduceLT,Int.reduceLE,Int.reduceEq,Int.reduceNe,Int.reduceNeg,ustrA,ti3,ti9,ti34,ti36,ca204,cf,Tryz.results204,encs_length]
      refine condK_intro (fun h2=>?_) (fun h2=>?_)
      · have hi2 : i < ks.length:=by simpa using h2
        have he:=encs_getD hi2
        have hmm:=getD_mem hi2
        have hi1 : IntKind.i64.wrap ((i : Int) + 1) = ((i + 1 : Nat) : Int):=by rw [wrap64 (by omega) (by omega)]; rfl
        rcases hx with ⟨rfl,rfl,rfl⟩ | ⟨j,rfl,hj,hg⟩
        · simp only [wpc_skip,AThen_normal,wpc_block,wpc_seq,wpc_drawn]
          refine .inr (drawE_intro [(false,0,2),(false,0,2),(false,0,0),(false,0,0),(false,0,0),(false,0,0),(false,0,0),(true,0,0),(true,1,1),(true,2,2),(false,3,3),(true,3,3)] [A ++ [.cells [.int .i64 k,.str m,.str n,.slice (encs ks)],.cells [.int .i64 0,.str [],.str [],.nils],.cells [.int .i64 k,.str m,.str n,.nils]],A ++ [.cells [.int .i64 k,.str m,.str n,.slice (encs ks)],.cells [.int .i64 0,.str [],.str [],.nils],.cells [.int .i64 k,.str m,.str n,.nils]],A ++ [.cells [.int .i64 k,.str m,.str n,.slice (encs ks)],.cells [.int .i64 0,.str [],.str [],.nils],.cells [.int .i64 k,.str m,.str n,.nils],.row 4 [enc (ks.getD 0 ty0)] 0],A ++ [.cells [.int .i64 k,.str m,.str n,.slice (encs ks)],.cells [.int .i64 0,.str [],.str [],.nils],.cells [.int .i64 k,.str m,.str n,.nils],.row 4 [enc (ks.getD 0 ty0)] 0,.row 4 [enc (ks.getD 0 ty0)] 0],A ++ [.cells [.int .i64 k,.str m,.str n,.slice (encs ks)],.cells [.int .i64 0,.str [],.str [],.nils],.cells [.int .i64 k,.str m,.str n,.own (A.length + 4)],.row 4 [enc (ks.getD 0 ty0)] 0,.row 4 [enc (ks.getD 0 ty0)] 0]] 4 rfl (by kernel_rfl) (by kernel_rfl) (by kernel_rfl) (by kernel_rfl) (by kernel_rfl) (by kernel_rfl) ?_)
          simp only [zW,zX,zD,builtinA,isLeaf,const1,Nat.reduceAdd,Nat.reduceMul,Nat.reduceSub,Nat.reduceLT,Nat.reduceLeDiff,Nat.reduceEqDiff,Nat.reduceBEq,Nat.reduceBNe,reduceIte,reduceCtorEq,Int.reduceToNat,Int.reduceLT,Int.reduceLE,Int.reduceEq,Int.reduceNe,Int.reduceNeg,ustrA,ti3,ti9,ti34,ti36,ca204,cf,Tryz.results204,he,enc_length,enc_take,enc_drop,frzL_enc,enc_closed,Option.map_some,encs_length]
          refine ⟨⟨by omega,by omega⟩,?_⟩
          refine callE_intro (by simp only [zW,zX,zD,builtinA,isLeaf,const1,Nat.reduceAdd,Nat.reduceMul,Nat.reduceSub,Nat.reduceLT,Nat.reduceLeDiff,Nat.reduceEqDiff,Nat.reduceBEq,Nat.reduceBNe,reduceIte,reduceCtorEq,Int.reduceToNat,Int.reduceLT,Int.reduceLE,Int.reduceEq,Int.reduceNe,Int.reduceNeg,ustrA,enc_length,enc_take,enc_drop,frzL_enc,enc_closed,Option.map_some] <;> rfl) (ih _ hmm (hok _ hmm) _) ?_ rfl rfl
          simp only [zW,zX,zD,builtinA,isLeaf,const1,Nat.reduceAdd,Nat.reduceMul,Nat.reduceSub,Nat.reduceLT,Nat.reduceLeDiff,Nat.reduceEqDiff,Nat.reduceBEq,Nat.reduceBNe,reduceIte,reduceCtorEq,Int.reduceToNat,Int.reduceLT,Int.reduceLE,Int.reduceEq,Int.reduceNe,Int.reduceNeg,ustrA,ti3,ti9,ti34,ti36,ca204,cf,Tryz.results204,he,enc_length,enc_take,enc_drop,frzL_enc,enc_closed,Option.map_some,encs_length]
          have hsn : [enc (ks.getD 0 ty0)] = encs (ks.take 1):=by
            match ks,hi2 with
            | t :: l,_=>simp [encs]
          simp only [zW,zX,zD,builtinA,isLeaf,const1,Nat.reduceAdd,Nat.reduceMul,Nat.reduceSub,Nat.reduceLT,Nat.reduceLeDiff,Nat.reduceEqDiff,Nat.reduceBEq,Nat.reduceBNe,reduceIte,reduceCtorEq,Int.reduceToNat,Int.reduceLT,Int.reduceLE,Int.reduceEq,Int.reduceNe,Int.reduceNeg,ustrA,ti3,ti9,ti34,ti36,ca204,cf,Tryz.results204,hi1,LoopK_eq]
          refine ⟨fun v hv=>enc_leaf _ v hv,fun r hr=>by rw [List.mem_singleton.1 hr,enc_length],⟨0 + 1,[.row 4 [enc (ks.getD 0 ty0)] 0,.row 4 [enc (ks.getD 0 ty0)] 0],_,by omega,rfl,rfl,.inr ⟨1,rfl,by simp,by rw [hsn]; rfl⟩⟩,?_⟩
          simp only [intOf]
          omega
        · have hsn : encs (ks.take i) ++ [enc (ks.getD i ty0)] = encs (ks.take (i + 1)):=by
            rw [encs_map,encs_map,List.take_add_one,List.map_append]
            simp [List.getD,hi2]
          simp only [wpc_skip,AThen_normal,wpc_block,wpc_seq,wpc_drawn]
          refine .inr (drawE_intro [(false,0,2),(false,0,2),(false,0,0),(false,0,0),(false,0,0),(false,0,0),(false,0,0),(true,0,0),(true,1,1),(true,2,2),(false,3,3),(true,3,3)] [A ++ (.cells [.int .i64 k,.str m,.str n,.slice (encs ks)] :: .cells [.int .i64 0,.str [],.str [],.nils] :: .cells [.int .i64 k,.str m,.str n,.own (A.length + (j + 3))] :: B),A ++ (.cells [.int .i64 k,.str m,.str n,.slice (encs ks)] :: .cells [.int .i64 0,.str [],.str [],.nils] :: .cells [.int .i64 k,.str m,.str n,.own (A.length + (j + 3))] :: B),A ++ (.cells [.int .i64 k,.str m,.str n,.slice (encs ks)] :: .cells [.int .i64 0,.str [],.str [],.nils] :: .cells [.int .i64 k,.str m,.str n,.own (A.length + (j + 3))] :: (B ++ [.row 4 [enc (ks.getD i ty0)] 0])),A ++ (.cells [.int .i64 k,.str m,.str n,.slice (encs ks)] :: .cells [.int .i64 0,.str [],.str [],.nils] :: .cells [.int .i64 k,.str m,.str n,.own (A.length + (j + 3))] :: (B.set j .dead ++ [.row 4 [enc (ks.getD i ty0)] 0,.row 4 (encs (ks.take i) ++ [enc (ks.getD i ty0)]) 0])),A ++ (.cells [.int .i64 k,.str m,.str n,.slice (encs ks)] :: .cells [.int .i64 0,.str [],.str [],.nils] :: .cells [.int .i64 k,.str m,.str n,.own (A.length + (B.length + 1 + 3))] :: (B.set j .dead ++ [.row 4 [enc (ks.getD i ty0)] 0,.row 4 (encs (ks.take i) ++ [enc (ks.getD i ty0)]) 0]))] 4 rfl (by kernel_rfl) (by kernel_rfl) (by kernel_rfl) (by kernel_rfl) (by kernel_rfl) (by kernel_rfl) ?_)
          simp only [zW,zX,zD,builtinA,isLeaf,const1,Nat.reduceAdd,Nat.reduceMul,Nat.reduceSub,Nat.reduceLT,Nat.reduceLeDiff,Nat.reduceEqDiff,Nat.reduceBEq,Nat.reduceBNe,reduceIte,reduceCtorEq,Int.reduceToNat,Int.reduceLT,Int.reduceLE,Int.reduceEq,Int.reduceNe,Int.reduceNeg,ustrA,ti3,ti9,ti34,ti36,ca204,cf,Tryz.results204,he,hj,hg,enc_length,enc_take,enc_drop,frzL_enc,enc_closed,Option.map_some,encs_length]
          refine ⟨⟨by omega,by omega⟩,?_⟩
          refine callE_intro (by simp only [zW,zX,zD,builtinA,isLeaf,const1,Nat.reduceAdd,Nat.reduceMul,Nat.reduceSub,Nat.reduceLT,Nat.reduceLeDiff,Nat.reduceEqDiff,Nat.reduceBEq,Nat.reduceBNe,reduceIte,reduceCtorEq,Int.reduceToNat,Int.reduceLT,Int.reduceLE,Int.reduceEq,Int.reduceNe,Int.reduceNeg,ustrA,enc_length,enc_take,enc_drop,frzL_enc,enc_closed,Option.map_some] <;> rfl) (ih _ hmm (hok _ hmm) _) ?_ rfl rfl
          simp only [zW,zX,zD,builtinA,isLeaf,const1,Nat.reduceAdd,Nat.reduceMul,Nat.reduceSub,Nat.reduceLT,Nat.reduceLeDiff,Nat.reduceEqDiff,Nat.reduceBEq,Nat.reduceBNe,reduceIte,reduceCtorEq,Int.reduceToNat,Int.reduceLT,Int.reduceLE,Int.reduceEq,Int.reduceNe,Int.reduceNeg,ustrA,ti3,ti9,ti34,ti36,ca204,cf,Tryz.results204,he,hj,hg,enc_length,enc_take,enc_drop,frzL_enc,enc_closed,Option.map_some,encs_length]
          simp only [zW,zX,zD,builtinA,isLeaf,const1,Nat.reduceAdd,Nat.reduceMul,Nat.reduceSub,Nat.reduceLT,Nat.reduceLeDiff,Nat.reduceEqDiff,Nat.reduceBEq,Nat.reduceBNe,reduceIte,reduceCtorEq,Int.reduceToNat,Int.reduceLT,Int.reduceLE,Int.reduceEq,Int.reduceNe,Int.reduceNeg,ustrA,ti3,ti9,ti34,ti36,ca204,cf,Tryz.results204,hi1,LoopK_eq]
          refine ⟨fun v hv=>enc_leaf _ v hv,⟨fun r hr=>by rw [List.mem_singleton.1 hr,enc_length],by rw [List.length_take]; omega⟩,⟨i + 1,B.set j .dead ++ [.row 4 [enc (ks.getD i ty0)] 0,.row 4 (encs (ks.take i) ++ [enc (ks.getD i ty0)]) 0],_,by omega,rfl,rfl,.inr ⟨B.length + 1,rfl,by simp,?_⟩⟩,?_⟩
          · rw [getD_sapp,hsn]; rfl
          · simp only [intOf]
            omega
      · have : i = ks.length:=by simp at h2; omega
        subst this
        rw [List.take_length] at hx
        rcases hx with ⟨h0,rfl,rfl⟩ | ⟨j,rfl,hj,hg⟩
        · have : ks = []:=by cases ks with
            | nil=>rfl
            | cons=>simp at h0
          subst this
          simp only [zW,zX,zD,builtinA,isLeaf,const1,Nat.reduceAdd,Nat.reduceMul,Nat.reduceSub,Nat.reduceLT,Nat.reduceLeDiff,Nat.reduceEqDiff,Nat.reduceBEq,Nat.reduceBNe,reduceIte,reduceCtorEq,Int.reduceToNat,Int.reduceLT,Int.reduceLE,Int.reduceEq,Int.reduceNe,Int.reduceNeg,ustrA,ti3,ti9,ti34,ti36,ca204,cf,Tryz.results204,encs]
        · simp only [zW,zX,zD,builtinA,isLeaf,const1,Nat.reduceAdd,Nat.reduceMul,Nat.reduceSub,Nat.reduceLT,Nat.reduceLeDiff,Nat.reduceEqDiff,Nat.reduceBEq,Nat.reduceBNe,reduceIte,reduceCtorEq,Int.reduceToNat,Int.reduceLT,Int.reduceLE,Int.reduceEq,Int.reduceNe,Int.reduceNeg,ustrA,ti3,ti9,ti34,ti36,ca204,cf,Tryz.results204,hg,hj]
end Go.Proofs.YtnjdbgiincliaaaGreat
