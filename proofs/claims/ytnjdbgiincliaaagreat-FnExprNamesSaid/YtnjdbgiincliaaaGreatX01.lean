/- TypesImpl, TypesVal, TypesMeth, LawTy, Exprs, ExVal. -/
import Derived.Test.YtnjdbgiincliaaaGreatX00
import Derived.Test.YtnjdbgiincliaaaGreatAbsW3
/- Types as trees: what the program's own functions read of them. -/
set_option linter.unusedVariables false
set_option linter.unusedSimpArgs false
namespace Go.Proofs.YtnjdbgiincliaaaGreat
open Go.Abs
def ifA : Option (TypeId × AV) → AV
  | none=>.nili
  | some (t,x)=>.iface t x
def pairUp : List (Option (TypeId × AV) × Bool) → Option (TypeId × AV) × Bool
  | [(x,true),(y,ok)]=>(some (422,.agg [ifA x,ifA y]),ok)
  | _=>(none,false)
mutual
def readO : Ty → Int → Option (TypeId × AV) × Bool
  | .mk k m n ks,d =>
    if 8 < d then (none,false)
    else if k = 1 then (some (369,.agg []),(decide (m = []) && decide (n = [])) && decide ((ks.length : Int) = 0))
    else if k = 2 then (if m = [] then if n = [] then pairUp (readOs ks (d + 1)) else (none,false) else (none,false))
    else if k = 3 then (some (180,.agg [.str m,.str n]),((decide (m = []) || moduleB m) && localB n) && decide ((ks.length : Int) = 0))
    else (none,false)
def readOs : List Ty → Int → List (Option (TypeId × AV) × Bool)
  | [],_=>[]
  | t :: l,d=>readO t d :: readOs l d
end
theorem readOs_length (l : List Ty) (d : Int) : (readOs l d).length = l.length:=by
  induction l with
  | nil=>rfl
  | cons t l ih=>rw [readOs,List.length_cons,ih,List.length_cons]
theorem pairUp_no {l : List (Option (TypeId × AV) × Bool)} (h : ¬ (l.length : Int) = 2) : pairUp l = (none,false):=by
  match l,h with
  | [],_=>rfl
  | [_],_=>simp [pairUp]
  | [_,_],h=>exact absurd rfl h
  | _ :: _ :: _ :: _,_=>simp [pairUp]
def ReadT (t : Ty) : Prop:=∀ (d : Int) (A : List Box),0 ≤ d → d ≤ 9 → ACalls Tryz.prog 198 [.agg (enc t),.int .i64 d] A (fun v A'=>v = .tuple [ifA (readO t d).1,.bool (readO t d).2] ∧ A' = A)
set_option maxRecDepth 100000 in
theorem impl_readFun (m n : List UInt8) (ks : List Ty) (d : Int) (h0 : 0 ≤ d) (h1 : d ≤ 8) (hk : ∀ t ∈ ks,ReadT t) (A : List Box) :
    ACalls Tryz.prog 260 [.agg (enc (.mk 2 m n ks)),.int .i64 d] A (fun v A'=>v = .tuple [ifA (readO (.mk 2 m n ks) d).1,.bool (readO (.mk 2 m n ks) d).2] ∧ A' = A):=by
  have hw : IntKind.i64.wrap (d + 1) = d + 1:=wrap64 (by omega) (by omega)
  have hl : ((encs ks).length : Int) = ks.length:=by rw [encs_length]
  rw [enc,readO,if_neg (by omega),if_neg (by omega),if_pos rfl]
  refine acalls_enter (cf:=cf 50 [0,1,2,4,5,6,7,8,22,34]) foll Tryz.func260 Tryz.ntmps260 (by simp [cf]) ?_
  simp only [Tryz.f260,EnterK_some,zW,zX,zD,builtinA,isLeaf,const1,Nat.reduceAdd,Nat.reduceMul,Nat.reduceSub,Nat.reduceLT,Nat.reduceLeDiff,Nat.reduceEqDiff,Nat.reduceBEq,Nat.reduceBNe,reduceIte,reduceCtorEq,Int.reduceToNat,Int.reduceLT,Int.reduceLE,Int.reduceEq,Int.reduceNe,Int.reduceNeg,ustrA,ti3,ti9,ti34,ti36,ti422,ca198,cf,Tryz.results260]
  by_cases hm : m = []
  · rw [if_pos hm]
    by_cases hn : n = []
    · rw [if_pos hn]
      by_cases h2 : (ks.length : Int) = 2
      · match ks,h2,hk with
        | [a,b],_,hk =>
          have ha:=hk a (by simp)
          have hb:=hk b (by simp)
          clear hl
          simp only [encs]
          have h22 : decide (((2 : Nat) : Int) = 2) = true:=rfl
          simp only [zW,zX,zD,builtinA,isLeaf,const1,Nat.reduceAdd,Nat.reduceMul,Nat.reduceSub,Nat.reduceLT,Nat.reduceLeDiff,Nat.reduceEqDiff,Nat.reduceBEq,Nat.reduceBNe,reduceIte,reduceCtorEq,Int.reduceToNat,Int.reduceLT,Int.reduceLE,Int.reduceEq,Int.reduceNe,Int.reduceNeg,ustrA,ti3,ti9,ti34,ti36,ti422,ca198,cf,Tryz.results260,decide_eq_true hm,decide_eq_true hn,h22,Bool.not_true,enc_length,enc_take,hw]
          refine ⟨by decide,?_⟩
          refine callK_intro (by simp only [zW,zX,zD,builtinA,isLeaf,const1,Nat.reduceAdd,Nat.reduceMul,Nat.reduceSub,Nat.reduceLT,Nat.reduceLeDiff,Nat.reduceEqDiff,Nat.reduceBEq,Nat.reduceBNe,reduceIte,reduceCtorEq,Int.reduceToNat,Int.reduceLT,Int.reduceLE,Int.reduceEq,Int.reduceNe,Int.reduceNeg,ustrA,frzL_enc,Option.map_some,hw]; rfl) (ha _ _ (by omega) (by omega)) ?_ rfl; rintro v A' ⟨rfl,rfl⟩
          rw [readOs,readOs,readOs]
          rcases readO a (d + 1) with ⟨x,_ | _⟩
          · simp only [zW,zX,zD,builtinA,isLeaf,const1,Nat.reduceAdd,Nat.reduceMul,Nat.reduceSub,Nat.reduceLT,Nat.reduceLeDiff,Nat.reduceEqDiff,Nat.reduceBEq,Nat.reduceBNe,reduceIte,reduceCtorEq,Int.reduceToNat,Int.reduceLT,Int.reduceLE,Int.reduceEq,Int.reduceNe,Int.reduceNeg,ustrA,ti3,ti9,ti34,ti36,ti422,ca198,cf,Tryz.results260,pairUp,ifA]
          · simp only [zW,zX,zD,builtinA,isLeaf,const1,Nat.reduceAdd,Nat.reduceMul,Nat.reduceSub,Nat.reduceLT,Nat.reduceLeDiff,Nat.reduceEqDiff,Nat.reduceBEq,Nat.reduceBNe,reduceIte,reduceCtorEq,Int.reduceToNat,Int.reduceLT,Int.reduceLE,Int.reduceEq,Int.reduceNe,Int.reduceNeg,ustrA,ti3,ti9,ti34,ti36,ti422,ca198,cf,Tryz.results260,enc_length,enc_take,hw]
            refine ⟨by decide,?_⟩
            refine callK_intro (by simp only [zW,zX,zD,builtinA,isLeaf,const1,Nat.reduceAdd,Nat.reduceMul,Nat.reduceSub,Nat.reduceLT,Nat.reduceLeDiff,Nat.reduceEqDiff,Nat.reduceBEq,Nat.reduceBNe,reduceIte,reduceCtorEq,Int.reduceToNat,Int.reduceLT,Int.reduceLE,Int.reduceEq,Int.reduceNe,Int.reduceNeg,ustrA,frzL_enc,Option.map_some,hw]; rfl) (hb _ _ (by omega) (by omega)) ?_ rfl; rintro v A' ⟨rfl,rfl⟩
            rcases x with _ | ⟨t1,x1⟩ <;> rcases readO b (d + 1) with ⟨_ | ⟨t2,x2⟩,ok⟩ <;> simp only [ifA,pairUp] <;> simp only [zW,zX,zD,builtinA,isLeaf,const1,Nat.reduceAdd,Nat.reduceMul,Nat.reduceSub,Nat.reduceLT,Nat.reduceLeDiff,Nat.reduceEqDiff,Nat.reduceBEq,Nat.reduceBNe,reduceIte,reduceCtorEq,Int.reduceToNat,Int.reduceLT,Int.reduceLE,Int.reduceEq,Int.reduceNe,Int.reduceNeg,ustrA,ti3,ti9,ti34,ti36,ti422,ca198,cf,Tryz.results260]
      · rw [pairUp_no (by rw [readOs_length]; exact h2)]
        simp only [zW,zX,zD,builtinA,isLeaf,const1,Nat.reduceAdd,Nat.reduceMul,Nat.reduceSub,Nat.reduceLT,Nat.reduceLeDiff,Nat.reduceEqDiff,Nat.reduceBEq,Nat.reduceBNe,reduceIte,reduceCtorEq,Int.reduceToNat,Int.reduceLT,Int.reduceLE,Int.reduceEq,Int.reduceNe,Int.reduceNeg,ustrA,ti3,ti9,ti34,ti36,ti422,ca198,cf,Tryz.results260,hl,decide_eq_true hm,decide_eq_true hn,decide_eq_false h2,Bool.not_true,Bool.not_false,ifA]
    · rw [if_neg hn]
      simp only [zW,zX,zD,builtinA,isLeaf,const1,Nat.reduceAdd,Nat.reduceMul,Nat.reduceSub,Nat.reduceLT,Nat.reduceLeDiff,Nat.reduceEqDiff,Nat.reduceBEq,Nat.reduceBNe,reduceIte,reduceCtorEq,Int.reduceToNat,Int.reduceLT,Int.reduceLE,Int.reduceEq,Int.reduceNe,Int.reduceNeg,ustrA,ti3,ti9,ti34,ti36,ti422,ca198,cf,Tryz.results260,decide_eq_true hm,decide_eq_false hn,Bool.not_true,Bool.not_false,ifA]
  · rw [if_neg hm]
    simp only [zW,zX,zD,builtinA,isLeaf,const1,Nat.reduceAdd,Nat.reduceMul,Nat.reduceSub,Nat.reduceLT,Nat.reduceLeDiff,Nat.reduceEqDiff,Nat.reduceBEq,Nat.reduceBNe,reduceIte,reduceCtorEq,Int.reduceToNat,Int.reduceLT,Int.reduceLE,Int.reduceEq,Int.reduceNe,Int.reduceNeg,ustrA,ti3,ti9,ti34,ti36,ti422,ca198,cf,Tryz.results260,decide_eq_false hm,Bool.not_false,ifA]
set_option maxRecDepth 100000 in
theorem impl_readNode (τ : Ty) : ReadT τ:=by
  induction τ using Ty.ind with
  | h k m n ks ih =>
    intro d A h0 h1
    have hl : ((encs ks).length : Int) = ks.length:=by rw [encs_length]
    rw [enc]
    refine acalls_enter (cf:=cf 54 [0,1,2,4,5,7,9,10,28,35]) foll Tryz.func198 Tryz.ntmps198 (by simp [cf]) ?_
    simp only [Tryz.f198,EnterK_some,zW,zX,zD,builtinA,isLeaf,const1,Nat.reduceAdd,Nat.reduceMul,Nat.reduceSub,Nat.reduceLT,Nat.reduceLeDiff,Nat.reduceEqDiff,Nat.reduceBEq,Nat.reduceBNe,reduceIte,reduceCtorEq,Int.reduceToNat,Int.reduceLT,Int.reduceLE,Int.reduceEq,Int.reduceNe,Int.reduceNeg,ustrA,ti3,ti9,ti34,ti36,ti180,ti369,ca260,ca261,cf,Tryz.results198]
    by_cases h8 : 8 < d
    · rw [readO,if_pos h8]
      simp only [zW,zX,zD,builtinA,isLeaf,const1,Nat.reduceAdd,Nat.reduceMul,Nat.reduceSub,Nat.reduceLT,Nat.reduceLeDiff,Nat.reduceEqDiff,Nat.reduceBEq,Nat.reduceBNe,reduceIte,reduceCtorEq,Int.reduceToNat,Int.reduceLT,Int.reduceLE,Int.reduceEq,Int.reduceNe,Int.reduceNeg,ustrA,ti3,ti9,ti34,ti36,ti180,ti369,ca260,ca261,cf,Tryz.results198,decide_eq_true h8,ifA]
    · by_cases k1 : k = 1
      · rw [readO,if_neg h8,if_pos k1]
        simp only [zW,zX,zD,builtinA,isLeaf,const1,Nat.reduceAdd,Nat.reduceMul,Nat.reduceSub,Nat.reduceLT,Nat.reduceLeDiff,Nat.reduceEqDiff,Nat.reduceBEq,Nat.reduceBNe,reduceIte,reduceCtorEq,Int.reduceToNat,Int.reduceLT,Int.reduceLE,Int.reduceEq,Int.reduceNe,Int.reduceNeg,ustrA,ti3,ti9,ti34,ti36,ti180,ti369,ca260,ca261,cf,Tryz.results198,decide_eq_false h8,decide_eq_true k1,hl]
        refine .inl ⟨by kernel_rfl,by kernel_rfl,?_⟩
        repeat' first
          | (refine guardT_intro (fun h=>?_) (fun h=>?_) <;> (try simp only [decide_eq_true_eq,decide_eq_false_iff_not,Bool.not_eq_eq_eq_not,Bool.not_true,Bool.not_false] at h) <;> simp only [zW,zX,zD,builtinA,isLeaf,const1,Nat.reduceAdd,Nat.reduceMul,Nat.reduceSub,Nat.reduceLT,Nat.reduceLeDiff,Nat.reduceEqDiff,Nat.reduceBEq,Nat.reduceBNe,reduceIte,reduceCtorEq,Int.reduceToNat,Int.reduceLT,Int.reduceLE,Int.reduceEq,Int.reduceNe,Int.reduceNeg,ustrA,ti3,ti9,ti34,ti36,ti180,ti369,ca260,ca261,cf,Tryz.results198,hl,h])
          | (refine guardF_intro (fun h=>?_) (fun h=>?_) <;> (try simp only [decide_eq_true_eq,decide_eq_false_iff_not,Bool.not_eq_eq_eq_not,Bool.not_true,Bool.not_false] at h) <;> simp only [zW,zX,zD,builtinA,isLeaf,const1,Nat.reduceAdd,Nat.reduceMul,Nat.reduceSub,Nat.reduceLT,Nat.reduceLeDiff,Nat.reduceEqDiff,Nat.reduceBEq,Nat.reduceBNe,reduceIte,reduceCtorEq,Int.reduceToNat,Int.reduceLT,Int.reduceLE,Int.reduceEq,Int.reduceNe,Int.reduceNeg,ustrA,ti3,ti9,ti34,ti36,ti180,ti369,ca260,ca261,cf,Tryz.results198,hl,h])
          | (refine condK_intro (fun h=>?_) (fun h=>?_) <;> (try simp only [decide_eq_true_eq,decide_eq_false_iff_not,Bool.not_eq_eq_eq_not,Bool.not_true,Bool.not_false] at h) <;> simp only [zW,zX,zD,builtinA,isLeaf,const1,Nat.reduceAdd,Nat.reduceMul,Nat.reduceSub,Nat.reduceLT,Nat.reduceLeDiff,Nat.reduceEqDiff,Nat.reduceBEq,Nat.reduceBNe,reduceIte,reduceCtorEq,Int.reduceToNat,Int.reduceLT,Int.reduceLE,Int.reduceEq,Int.reduceNe,Int.reduceNeg,ustrA,ti3,ti9,ti34,ti36,ti180,ti369,ca260,ca261,cf,Tryz.results198,hl,h])
          | (refine guardDT_intro (fun h=>?_) (fun h=>?_) <;> (try simp only [decide_eq_true_eq,decide_eq_false_iff_not,Bool.not_eq_eq_eq_not,Bool.not_true,Bool.not_false] at h) <;> simp only [zW,zX,zD,builtinA,isLeaf,const1,Nat.reduceAdd,Nat.reduceMul,Nat.reduceSub,Nat.reduceLT,Nat.reduceLeDiff,Nat.reduceEqDiff,Nat.reduceBEq,Nat.reduceBNe,reduceIte,reduceCtorEq,Int.reduceToNat,Int.reduceLT,Int.reduceLE,Int.reduceEq,Int.reduceNe,Int.reduceNeg,ustrA,ti3,ti9,ti34,ti36,ti180,ti369,ca260,ca261,cf,Tryz.results198,hl,h])
          | (refine guardDF_intro (fun h=>?_) (fun h=>?_) <;> (try simp only [decide_eq_true_eq,decide_eq_false_iff_not,Bool.not_eq_eq_eq_not,Bool.not_true,Bool.not_false] at h) <;> simp only [zW,zX,zD,builtinA,isLeaf,const1,Nat.reduceAdd,Nat.reduceMul,Nat.reduceSub,Nat.reduceLT,Nat.reduceLeDiff,Nat.reduceEqDiff,Nat.reduceBEq,Nat.reduceBNe,reduceIte,reduceCtorEq,Int.reduceToNat,Int.reduceLT,Int.reduceLE,Int.reduceEq,Int.reduceNe,Int.reduceNeg,ustrA,ti3,ti9,ti34,ti36,ti180,ti369,ca260,ca261,cf,Tryz.results198,hl,h])
          | refine And.intro ?_ ?_
        all_goals simp [ifA, *]
      · by_cases k2 : k = 2
        · subst k2
          simp only [zW,zX,zD,builtinA,isLeaf,const1,Nat.reduceAdd,Nat.reduceMul,Nat.reduceSub,Nat.reduceLT,Nat.reduceLeDiff,Nat.reduceEqDiff,Nat.reduceBEq,Nat.reduceBNe,reduceIte,reduceCtorEq,Int.reduceToNat,Int.reduceLT,Int.reduceLE,Int.reduceEq,Int.reduceNe,Int.reduceNeg,ustrA,ti3,ti9,ti34,ti36,ti180,ti369,ca260,ca261,cf,Tryz.results198,decide_eq_false h8,decide_eq_false k1]
          refine callK_intro (by simp only [zW,zX,zD,builtinA,isLeaf,const1,Nat.reduceAdd,Nat.reduceMul,Nat.reduceSub,Nat.reduceLT,Nat.reduceLeDiff,Nat.reduceEqDiff,Nat.reduceBEq,Nat.reduceBNe,reduceIte,reduceCtorEq,Int.reduceToNat,Int.reduceLT,Int.reduceLE,Int.reduceEq,Int.reduceNe,Int.reduceNeg,ustrA,Option.map_some]; rfl) (impl_readFun m n ks d h0 (by omega) ih _) ?_ rfl; rintro v A' ⟨rfl,rfl⟩
          rcases readO (.mk 2 m n ks) d with ⟨_ | ⟨t,x⟩,ok⟩ <;> simp only [ifA] <;> (simp only [zW,zX,zD,builtinA,isLeaf,const1,Nat.reduceAdd,Nat.reduceMul,Nat.reduceSub,Nat.reduceLT,Nat.reduceLeDiff,Nat.reduceEqDiff,Nat.reduceBEq,Nat.reduceBNe,reduceIte,reduceCtorEq,Int.reduceToNat,Int.reduceLT,Int.reduceLE,Int.reduceEq,Int.reduceNe,Int.reduceNeg,ustrA,ti3,ti9,ti34,ti36,ti180,ti369,ca260,ca261,cf,Tryz.results198])
        · rw [readO,if_neg h8,if_neg k1,if_neg k2]
          by_cases k3 : k = 3
          · rw [if_pos k3]
            simp only [zW,zX,zD,builtinA,isLeaf,const1,Nat.reduceAdd,Nat.reduceMul,Nat.reduceSub,Nat.reduceLT,Nat.reduceLeDiff,Nat.reduceEqDiff,Nat.reduceBEq,Nat.reduceBNe,reduceIte,reduceCtorEq,Int.reduceToNat,Int.reduceLT,Int.reduceLE,Int.reduceEq,Int.reduceNe,Int.reduceNeg,ustrA,ti3,ti9,ti34,ti36,ti180,ti369,ca260,ca261,cf,Tryz.results198,decide_eq_false h8,decide_eq_false k1,decide_eq_false k2,decide_eq_true k3]
            refine .inl ⟨by kernel_rfl,by kernel_rfl,?_⟩
            refine callD_intro (by simp only [zW,zX,zD,builtinA,isLeaf,const1,Nat.reduceAdd,Nat.reduceMul,Nat.reduceSub,Nat.reduceLT,Nat.reduceLeDiff,Nat.reduceEqDiff,Nat.reduceBEq,Nat.reduceBNe,reduceIte,reduceCtorEq,Int.reduceToNat,Int.reduceLT,Int.reduceLE,Int.reduceEq,Int.reduceNe,Int.reduceNeg,ustrA,Option.map_some] <;> rfl) (impl_validName m n _) ?_ rfl
            cases hn : ((decide (m = []) || moduleB m) && localB n) with
            | true =>
              simp only [zW,zX,zD,builtinA,isLeaf,const1,Nat.reduceAdd,Nat.reduceMul,Nat.reduceSub,Nat.reduceLT,Nat.reduceLeDiff,Nat.reduceEqDiff,Nat.reduceBEq,Nat.reduceBNe,reduceIte,reduceCtorEq,Int.reduceToNat,Int.reduceLT,Int.reduceLE,Int.reduceEq,Int.reduceNe,Int.reduceNeg,ustrA,ti3,ti9,ti34,ti36,ti180,ti369,ca260,ca261,cf,Tryz.results198,hl,ifA]
            | false =>
              simp only [zW,zX,zD,builtinA,isLeaf,const1,Nat.reduceAdd,Nat.reduceMul,Nat.reduceSub,Nat.reduceLT,Nat.reduceLeDiff,Nat.reduceEqDiff,Nat.reduceBEq,Nat.reduceBNe,reduceIte,reduceCtorEq,Int.reduceToNat,Int.reduceLT,Int.reduceLE,Int.reduceEq,Int.reduceNe,Int.reduceNeg,ustrA,ti3,ti9,ti34,ti36,ti180,ti369,ca260,ca261,cf,Tryz.results198,hl,ifA]
          · rw [if_neg k3]
            simp only [zW,zX,zD,builtinA,isLeaf,const1,Nat.reduceAdd,Nat.reduceMul,Nat.reduceSub,Nat.reduceLT,Nat.reduceLeDiff,Nat.reduceEqDiff,Nat.reduceBEq,Nat.reduceBNe,reduceIte,reduceCtorEq,Int.reduceToNat,Int.reduceLT,Int.reduceLE,Int.reduceEq,Int.reduceNe,Int.reduceNeg,ustrA,ti3,ti9,ti34,ti36,ti180,ti369,ca260,ca261,cf,Tryz.results198,decide_eq_false h8,decide_eq_false k1,decide_eq_false k2,decide_eq_false k3,ifA]
end Go.Proofs.YtnjdbgiincliaaaGreat
/- Valid types as trees, and what the methods of the program answer on them. -/
set_option linter.unusedVariables false
set_option linter.unusedSimpArgs false
namespace Go.Proofs.YtnjdbgiincliaaaGreat
open Go.Abs
inductive VT where
  | num
  | fn (a b : VT)
  | nm (m n : List UInt8)
def vT : VT → TypeId
  | .num=>369
  | .fn _ _=>422
  | .nm _ _=>180
def vX : VT → AV
  | .num=>.agg []
  | .fn a b=>.agg [.iface (vT a) (vX a),.iface (vT b) (vX b)]
  | .nm m n=>.agg [.str m,.str n]
def toTy : VT → Ty
  | .num=>.mk 1 [] [] []
  | .fn a b=>.mk 2 [] [] [toTy a,toTy b]
  | .nm m n=>.mk 3 m n []
def dep : VT → Nat
  | .num=>1
  | .fn a b=>1 + max (dep a) (dep b)
  | .nm _ _=>1
def cnt : VT → Nat
  | .num=>1
  | .fn a b=>1 + cnt a + cnt b
  | .nm _ _=>1
def nmB (m n : List UInt8) : Bool:=(decide (m = []) || moduleB m) && localB n
def okV : VT → Bool
  | .num=>true
  | .fn a b=>okV a && okV b
  | .nm m n=>nmB m n
theorem dep_pos : ∀ v,1 ≤ dep v
  | .num=>by simp [dep]
  | .fn a b=>by simp [dep]
  | .nm _ _=>by simp [dep]
theorem cnt_dep : ∀ v,cnt v + 1 ≤ 2 ^ dep v
  | .num=>by simp [dep,cnt]
  | .nm _ _=>by simp [dep,cnt]
  | .fn a b=>by
    have ha:=cnt_dep a
    have hb:=cnt_dep b
    have h1 : 2 ^ dep a ≤ 2 ^ max (dep a) (dep b):=Nat.pow_le_pow_right (by decide) (Nat.le_max_left _ _)
    have h2 : 2 ^ dep b ≤ 2 ^ max (dep a) (dep b):=Nat.pow_le_pow_right (by decide) (Nat.le_max_right _ _)
    rw [dep,cnt,Nat.pow_add,Nat.pow_one]
    omega
theorem cnt_lt {v : VT} {k : Nat} (h : dep v ≤ k) : cnt v < 2 ^ k:=by
  have:=cnt_dep v
  have h2 : 2 ^ dep v ≤ 2 ^ k:=Nat.pow_le_pow_right (by decide) h
  omega
theorem count_toTy : ∀ v,count (toTy v) = cnt v
  | .num=>by simp [toTy,count,counts,cnt]
  | .nm _ _=>by simp [toTy,count,counts,cnt]
  | .fn a b=>by simp [toTy,count,counts,cnt,count_toTy a,count_toTy b]; omega
theorem shape_toTy : ∀ (v : VT) (d : Int),okV v = true → (dep v : Int) ≤ d → shape (toTy v) d = true
  | .num,d,_,h=>by
    simp [dep] at h
    simp [toTy,shape,shapes,kidsOf,ownB,h]
  | .nm m n,d,hv,h=>by
    simp [dep] at h
    simp [okV,nmB] at hv
    simp [toTy,shape,shapes,kidsOf,ownB,h,hv.1,hv.2]
  | .fn a b,d,hv,h=>by
    simp [dep] at h
    simp [okV] at hv
    have ha:=shape_toTy a (d - 1) hv.1 (by omega)
    have hb:=shape_toTy b (d - 1) hv.2 (by omega)
    simp [toTy,shape,shapes,kidsOf,ownB,ha,hb]
    have:=dep_pos a
    omega
theorem shape_of (τ : Ty) : ∀ (d : Int),shape τ d = true → ∃ v,τ = toTy v ∧ okV v = true ∧ (dep v : Int) ≤ d:=by
  induction τ using Ty.ind with
  | h k m n ks ih =>
    intro d h
    rw [shape] at h
    simp only [Bool.and_eq_true,decide_eq_true_eq] at h
    obtain ⟨⟨h1,h2,h3⟩,h4⟩:=h
    by_cases k1 : k = 1
    · subst k1
      simp [kidsOf] at h2
      have : ks = []:=by cases ks with
        | nil=>rfl
        | cons=>simp at h2; omega
      subst this
      simp [ownB] at h3
      obtain ⟨rfl,rfl⟩:=h3
      exact ⟨.num,rfl,rfl,h1⟩
    · by_cases k3 : k = 3
      · subst k3
        simp [kidsOf] at h2
        have : ks = []:=by cases ks with
          | nil=>rfl
          | cons=>simp at h2; omega
        subst this
        simp [ownB] at h3
        exact ⟨.nm m n,rfl,by simp [okV,nmB,h3.1,h3.2],h1⟩
      · by_cases k2 : k = 2
        · subst k2
          simp [kidsOf] at h2
          match ks,h2,ih,h4 with
          | [a,b],_,ih,h4 =>
            simp [ownB] at h3
            obtain ⟨rfl,rfl⟩:=h3
            simp only [shapes,Bool.and_eq_true] at h4
            obtain ⟨x,rfl,hx1,hx2⟩:=ih a (by simp) _ h4.1
            obtain ⟨y,rfl,hy1,hy2⟩:=ih b (by simp) _ h4.2.1
            refine ⟨.fn x y,rfl,by simp [okV,hx1,hy1],?_⟩
            simp only [dep]
            omega
          | [],h2,_,_=>simp at h2
          | [_],h2,_,_=>simp at h2
          | _ :: _ :: _ :: _,h2,_,_=>simp at h2; omega
        · simp [kidsOf,k1,k2,k3] at h2; try omega
theorem readO_toTy : ∀ (v : VT) (d : Int),okV v = true → d + dep v ≤ 9 → readO (toTy v) d = (some (vT v,vX v),true)
  | .num,d,_,h=>by
    simp [dep] at h
    have : ¬ 8 < d:=by omega
    simp [toTy,readO,this,vT,vX]
  | .nm m n,d,hv,h=>by
    simp [dep] at h
    simp [okV,nmB] at hv
    have : ¬ 8 < d:=by omega
    simp [toTy,readO,this,vT,vX,hv.1,hv.2]
  | .fn a b,d,hv,h=>by
    simp [dep] at h
    simp [okV] at hv
    have ha:=readO_toTy a (d + 1) hv.1 (by omega)
    have hb:=readO_toTy b (d + 1) hv.2 (by omega)
    have:=dep_pos a
    have : ¬ 8 < d:=by omega
    simp [toTy,readO,readOs,this,vT,vX,ha,hb,pairUp,ifA]
theorem readO_of (τ : Ty) : ∀ (d : Int),(readO τ d).2 = true → ∃ v,τ = toTy v ∧ okV v = true ∧ d + dep v ≤ 9:=by
  induction τ using Ty.ind with
  | h k m n ks ih =>
    intro d h
    rw [readO] at h
    split at h
    · cases h
    · rename_i hd
      split at h
      · rename_i k1
        subst k1
        simp at h
        obtain ⟨⟨rfl,rfl⟩,h⟩:=h
        have : ks = []:=by cases ks with
          | nil=>rfl
          | cons=>simp at h
        subst this
        exact ⟨.num,rfl,rfl,by simp [dep]; omega⟩
      · split at h
        · rename_i k1 k2
          subst k2
          split at h
          · rename_i hm
            subst hm
            split at h
            · rename_i hn
              subst hn
              match ks,ih,h with
              | [a,b],ih,h =>
                simp only [readOs,pairUp] at h
                have ha : (readO a (d + 1)).2 = true:=by
                  generalize readO a (d + 1) = x at h
                  generalize readO b (d + 1) = y at h
                  rcases x with ⟨x,_ | _⟩ <;> simp [pairUp] at h ⊢
                have hb : (readO b (d + 1)).2 = true:=by
                  generalize readO a (d + 1) = x at h
                  generalize readO b (d + 1) = y at h
                  rcases x with ⟨x,_ | _⟩ <;> rcases y with ⟨y,_ | _⟩ <;> simp [pairUp] at h ⊢
                obtain ⟨x,rfl,hx1,hx2⟩:=ih a (by simp) _ ha
                obtain ⟨y,rfl,hy1,hy2⟩:=ih b (by simp) _ hb
                refine ⟨.fn x y,rfl,by simp [okV,hx1,hy1],?_⟩
                simp only [dep]
                omega
              | [],_,h=>simp [readOs,pairUp] at h
              | [_],_,h=>simp [readOs,pairUp] at h
              | _ :: _ :: _ :: _,_,h=>simp [readOs,pairUp] at h
            · cases h
          · cases h
        · split at h
          · rename_i k1 k2 k3
            subst k3
            simp at h
            have : ks = []:=by cases ks with
              | nil=>rfl
              | cons=>simp at h
            subst this
            exact ⟨.nm m n,rfl,by simp [okV,nmB,h.1.1,h.1.2],by simp [dep]; omega⟩
          · cases h
structure VOk (v : VT) : Prop where
  ok : okV v = true
  dep : dep v ≤ 8
  cnt : cnt v ≤ 63
theorem validB_toTy {v : VT} (h : VOk v) : validB (toTy v) = true:=by
  have:=h.dep
  rw [validB,shape_toTy v 8 h.ok (by omega),count_toTy,decide_eq_true h.cnt]
  rfl
theorem validB_of {τ : Ty} (h : validB τ = true) : ∃ v,τ = toTy v ∧ VOk v:=by
  simp only [validB,Bool.and_eq_true,decide_eq_true_eq] at h
  obtain ⟨v,rfl,h1,h2⟩:=shape_of τ 8 h.1
  rw [count_toTy] at h
  exact ⟨v,rfl,h1,by omega,h.2⟩
theorem valid_cases (τ : Ty) : (∃ v,τ = toTy v ∧ VOk v) ∨ validB τ = false:=by
  cases h : validB τ with
  | true=>exact .inl (validB_of h)
  | false=>exact .inr rfl
theorem frzC_vX (v : VT) (A : List Box) : frzC (vX v) A = some (vX v,A):=by cases v <;> rfl
def pickF (x y z : FuncId) : VT → FuncId
  | .num=>x
  | .fn _ _=>y
  | .nm _ _=>z
structure Met (name : String) (gs : VT → FuncId) : Prop where
  find : ∀ v,methA Tryz.prog (vT v) name = some (gs v)
  call : ∀ v,callable Tryz.prog (gs v) = true
theorem met3 {name : String} {x y z : FuncId} (h1 : methA Tryz.prog 369 name = some x) (h2 : methA Tryz.prog 422 name = some y) (h3 : methA Tryz.prog 180 name = some z)
    (c1 : callable Tryz.prog x = true) (c2 : callable Tryz.prog y = true) (c3 : callable Tryz.prog z = true) : Met name (pickF x y z) :=
  ⟨fun v=>match v with
    | .num=>h1
    | .fn _ _=>h2
    | .nm _ _=>h3,
   fun v=>match v with
    | .num=>c1
    | .fn _ _=>c2
    | .nm _ _=>c3⟩
theorem meth_invK {own ow : FuncId → Bool} {name : String} {gs : VT → FuncId} {v : VT} {args args' : List AV} {A A1 : List Box} {R : AV → List Box → Prop} {N : Nat} {ops : Array Oper} {Q : Env → List Box → Prop} {rest : List Oper} {d : Option Tmp} {e : Env}
    (hm : Met name gs) (h : ACalls Tryz.prog (gs v) (vX v :: args') A1 R) (hf : frzs args A = some (args',A1)) (ho : ∀ g,own g = false)
    (hk : ∀ r A',R r A' → wpO Tryz.prog ow N ops Q rest (putA N d r e) A') : InvK Tryz.prog own name (.iface (vT v) (vX v)) args A (ContO Tryz.prog ow N ops Q rest d e):=by
  have h1:=hm.find v
  have h2:=hm.call v
  generalize gs v = g at h h1 h2
  refine ⟨g,h1,h2,callK_intro (args':=vX v :: args') (A1:=A1) ?_ h hk (ho g)⟩
  simp only [frzs,frzC_vX,hf]
theorem meth_invD {own : FuncId → Bool} {name : String} {gs : VT → FuncId} {v : VT} {args args' : List AV} {A : List Box} {x : AV} {N : Nat} {ops : Array Oper} {Q : Env → Prop} {rest : List Oper} {d : Option Tmp} {e : Env}
    (hm : Met name gs) (h : ACalls Tryz.prog (gs v) (vX v :: args') A (fun v' A'=>v' = x ∧ A' = A)) (hf : frzs args A = some (args',A)) (ho : ∀ g,own g = false)
    (hk : wpD Tryz.prog own N ops A Q rest (putA N d x e)) : InvD Tryz.prog own name (.iface (vT v) (vX v)) args A N ops Q rest d e:=by
  have h1:=hm.find v
  have h2:=hm.call v
  generalize gs v = g at h h1 h2
  refine ⟨g,h1,h2,callD_intro (args':=vX v :: args') ?_ h hk (ho g)⟩
  simp only [frzs,frzC_vX,hf]
end Go.Proofs.YtnjdbgiincliaaaGreat
/- The methods that measure a valid type, and the functions that read one. -/
set_option linter.unusedVariables false
set_option linter.unusedSimpArgs false
namespace Go.Proofs.YtnjdbgiincliaaaGreat
open Go.Abs
def DepM (v : VT) : Prop:=∀ A,ACalls Tryz.prog ((pickF 428 435 357) v) [vX v] A (fun r A'=>r = .int .i64 (dep v) ∧ A' = A)
def CntM (v : VT) : Prop:=∀ A,ACalls Tryz.prog ((pickF 427 434 356) v) [vX v] A (fun r A'=>r = .int .i64 (cnt v) ∧ A' = A)
set_option maxRecDepth 100000 in
theorem num_depth : DepM .num:=fun A=>by
  show ACalls Tryz.prog 428 _ _ _
  rw [vX]
  refine acalls_enter (cf:=cf 3 [0,2]) foll Tryz.func428 Tryz.ntmps428 (by simp [cf]) ?_
  simp only [Tryz.f428,EnterK_some,zW,zX,zD,builtinA,isLeaf,const1,ustrA,simprocAttr,ti369,cf,Tryz.results428]
  simp [dep]
set_option maxRecDepth 100000 in
theorem name_depth (m n : List UInt8) : DepM (.nm m n):=fun A=>by
  show ACalls Tryz.prog 357 _ _ _
  rw [vX]
  refine acalls_enter (cf:=cf 3 [0,2]) foll Tryz.func357 Tryz.ntmps357 (by simp [cf]) ?_
  simp only [Tryz.f357,EnterK_some,zW,zX,zD,builtinA,isLeaf,const1,ustrA,simprocAttr,ti180,cf,Tryz.results357]
  simp [dep]
set_option maxRecDepth 100000 in
theorem num_count : CntM .num:=fun A=>by
  show ACalls Tryz.prog 427 _ _ _
  rw [vX]
  refine acalls_enter (cf:=cf 3 [0,2]) foll Tryz.func427 Tryz.ntmps427 (by simp [cf]) ?_
  simp only [Tryz.f427,EnterK_some,zW,zX,zD,builtinA,isLeaf,const1,ustrA,simprocAttr,ti369,cf,Tryz.results427]
  simp [cnt]
set_option maxRecDepth 100000 in
theorem name_count (m n : List UInt8) : CntM (.nm m n):=fun A=>by
  show ACalls Tryz.prog 356 _ _ _
  rw [vX]
  refine acalls_enter (cf:=cf 3 [0,2]) foll Tryz.func356 Tryz.ntmps356 (by simp [cf]) ?_
  simp only [Tryz.f356,EnterK_some,zW,zX,zD,builtinA,isLeaf,const1,ustrA,simprocAttr,ti180,cf,Tryz.results356]
  simp [cnt]
set_option maxRecDepth 100000 in
theorem fun_depth (a b : VT) (ha : DepM a) (hb : DepM b) (hd : dep a < 1000 ∧ dep b < 1000) : DepM (.fn a b):=fun A=>by
  show ACalls Tryz.prog 435 _ _ _
  rw [vX]
  refine acalls_enter (cf:=cf 11 [0,1,2]) foll Tryz.func435 Tryz.ntmps435 (by simp [cf]) ?_
  simp only [Tryz.f435,EnterK_some,zW,zX,zD,builtinA,isLeaf,const1,ustrA,simprocAttr,ti3,ti175,ti422,cf,Tryz.results435]
  refine .inl ⟨by kernel_rfl,by kernel_rfl,?_⟩
  refine wpD_invoke _ _ _ _ _ _ _ _ _ _ _ _ _ _ _ _ ?_
  simp only [zW,zX,zD,builtinA,isLeaf,const1,ustrA,simprocAttr,ti3,ti175,ti422,cf,Tryz.results435]
  refine meth_invD (met3 (by kernel_rfl) (by kernel_rfl) (by kernel_rfl) (by kernel_rfl) (by kernel_rfl) (by kernel_rfl)) (ha _) rfl (fun _=>rfl) ?_
  simp only [zW,zX,zD,builtinA,isLeaf,const1,ustrA,simprocAttr,ti3,ti175,ti422,cf,Tryz.results435]
  refine wpD_invoke _ _ _ _ _ _ _ _ _ _ _ _ _ _ _ _ ?_
  simp only [zW,zX,zD,builtinA,isLeaf,const1,ustrA,simprocAttr,ti3,ti175,ti422,cf,Tryz.results435]
  refine meth_invD (met3 (by kernel_rfl) (by kernel_rfl) (by kernel_rfl) (by kernel_rfl) (by kernel_rfl) (by kernel_rfl)) (hb _) rfl (fun _=>rfl) ?_
  simp only [zW,zX,zD,builtinA,isLeaf,const1,ustrA,simprocAttr,ti3,ti175,ti422,cf,Tryz.results435]
  rw [wrap64 (by split <;> omega) (by split <;> omega),dep]
  congr 1
  split <;> omega
set_option maxRecDepth 100000 in
theorem fun_count (a b : VT) (ha : CntM a) (hb : CntM b) (hd : cnt a < 100000 ∧ cnt b < 100000) : CntM (.fn a b):=fun A=>by
  show ACalls Tryz.prog 434 _ _ _
  rw [vX]
  refine acalls_enter (cf:=cf 11 [0,1,2]) foll Tryz.func434 Tryz.ntmps434 (by simp [cf]) ?_
  simp only [Tryz.f434,EnterK_some,zW,zX,zD,builtinA,isLeaf,const1,ustrA,simprocAttr,ti3,ti175,ti422,cf,Tryz.results434]
  refine .inl ⟨by kernel_rfl,by kernel_rfl,?_⟩
  refine wpD_invoke _ _ _ _ _ _ _ _ _ _ _ _ _ _ _ _ ?_
  simp only [zW,zX,zD,builtinA,isLeaf,const1,ustrA,simprocAttr,ti3,ti175,ti422,cf,Tryz.results434]
  refine meth_invD (met3 (by kernel_rfl) (by kernel_rfl) (by kernel_rfl) (by kernel_rfl) (by kernel_rfl) (by kernel_rfl)) (ha _) rfl (fun _=>rfl) ?_
  simp only [zW,zX,zD,builtinA,isLeaf,const1,ustrA,simprocAttr,ti3,ti175,ti422,cf,Tryz.results434]
  refine wpD_invoke _ _ _ _ _ _ _ _ _ _ _ _ _ _ _ _ ?_
  simp only [zW,zX,zD,builtinA,isLeaf,const1,ustrA,simprocAttr,ti3,ti175,ti422,cf,Tryz.results434]
  refine meth_invD (met3 (by kernel_rfl) (by kernel_rfl) (by kernel_rfl) (by kernel_rfl) (by kernel_rfl) (by kernel_rfl)) (hb _) rfl (fun _=>rfl) ?_
  simp only [zW,zX,zD,builtinA,isLeaf,const1,ustrA,simprocAttr,ti3,ti175,ti422,cf,Tryz.results434]
  have h1 : IntKind.i64.wrap (1 + (cnt a : Int)) = 1 + cnt a:=wrap64 (by omega) (by omega)
  rw [h1,wrap64 (by omega) (by omega),cnt]
  congr 1
theorem depM : ∀ v,dep v ≤ 9 → DepM v
  | .num,_=>num_depth
  | .nm m n,_=>name_depth m n
  | .fn a b,h=>by
    rw [dep] at h
    exact fun_depth a b (depM a (by omega)) (depM b (by omega)) (by omega)
theorem cntM : ∀ v,cnt v < 100000 → CntM v
  | .num,_=>num_count
  | .nm m n,_=>name_count m n
  | .fn a b,h=>by
    rw [cnt] at h
    exact fun_count a b (cntM a (by omega)) (cntM b (by omega)) (by omega)
set_option maxRecDepth 100000 in
theorem impl_withinLimits (v : VT) (hd : dep v ≤ 9) (A : List Box) : ACalls Tryz.prog 199 [.iface (vT v) (vX v)] A (fun r A'=>r = .bool (decide (dep v ≤ 8) && decide (cnt v ≤ 63)) ∧ A' = A):=by
  have hc:=cnt_lt hd
  refine acalls_enter (cf:=cf 11 [0,2]) foll Tryz.func199 Tryz.ntmps199 (by simp [cf]) ?_
  simp only [Tryz.f199,EnterK_some,zW,zX,zD,builtinA,isLeaf,const1,ustrA,simprocAttr,ti3,cf,Tryz.results199]
  refine wpO_invoke _ _ _ _ _ _ _ _ _ _ _ _ _ _ _ _ ?_
  simp only [zW,zX,zD,builtinA,isLeaf,const1,ustrA,simprocAttr,ti3,cf,Tryz.results199]
  refine meth_invK (met3 (by kernel_rfl) (by kernel_rfl) (by kernel_rfl) (by kernel_rfl) (by kernel_rfl) (by kernel_rfl)) (depM v hd _) rfl (fun _=>rfl) ?_
  rintro v A' ⟨rfl,rfl⟩
  simp only [zW,zX,zD,builtinA,isLeaf,const1,ustrA,simprocAttr,ti3,cf,Tryz.results199]
  by_cases h8 : dep v ≤ 8
  · have e8 : decide ((dep v : Int) ≤ 8) = true:=decide_eq_true (by omega)
    rw [decide_eq_true h8]
    simp only [zW,zX,zD,builtinA,isLeaf,const1,ustrA,simprocAttr,ti3,cf,Tryz.results199,e8]
    refine wpO_invoke _ _ _ _ _ _ _ _ _ _ _ _ _ _ _ _ ?_
    simp only [zW,zX,zD,builtinA,isLeaf,const1,ustrA,simprocAttr,ti3,cf,Tryz.results199]
    refine meth_invK (met3 (by kernel_rfl) (by kernel_rfl) (by kernel_rfl) (by kernel_rfl) (by kernel_rfl) (by kernel_rfl)) (cntM v (by omega) _) rfl (fun _=>rfl) ?_
    rintro v A' ⟨rfl,rfl⟩
    simp only [zW,zX,zD,builtinA,isLeaf,const1,ustrA,simprocAttr,ti3,cf,Tryz.results199]
    simp
    omega
  · have e8 : decide ((dep v : Int) ≤ 8) = false:=decide_eq_false (by omega)
    rw [decide_eq_false h8]
    simp only [zW,zX,zD,builtinA,isLeaf,const1,ustrA,simprocAttr,ti3,cf,Tryz.results199,e8]
set_option maxRecDepth 100000 in
theorem impl_readType (τ : Ty) (A : List Box) : ACalls Tryz.prog 111 [.agg (enc τ)] A (fun r A'=>((∃ v,τ = toTy v ∧ VOk v ∧ r = .tuple [.iface (vT v) (vX v),.bool true]) ∨ (validB τ = false ∧ r = .tuple [.nili,.bool false])) ∧ A' = A):=by
  refine acalls_enter (cf:=cf 19 [0,1,2,3,4,5,17]) foll Tryz.func111 Tryz.ntmps111 (by simp [cf]) ?_
  simp only [Tryz.f111,EnterK_some,zW,zX,zD,builtinA,isLeaf,const1,ustrA,simprocAttr,ti36,ca198,ca199,cf,Tryz.results111]
  simp only [enc_take]
  refine ⟨by rw [enc_length]; omega,?_⟩
  refine callK_intro (by simp only [zW,zX,zD,builtinA,isLeaf,const1,ustrA,simprocAttr,frzL_enc,Option.map_some]; rfl) (impl_readNode τ _ _ (by omega) (by omega)) ?_ rfl; rintro v A' ⟨rfl,rfl⟩
  cases hr : (readO τ 1).2 with
  | false =>
    have hv : validB τ = false:=by
      rcases valid_cases τ with ⟨v,rfl,hv⟩ | h
      · have:=hv.dep
        rw [readO_toTy v 1 hv.ok (by omega)] at hr
        cases hr
      · exact h
    simp only [zW,zX,zD,builtinA,isLeaf,const1,ustrA,simprocAttr,ti36,ca198,ca199,cf,Tryz.results111]
    exact .inr hv
  | true =>
    obtain ⟨v,rfl,hv,hd⟩:=readO_of τ 1 hr
    have hro:=readO_toTy v 1 hv hd
    have hcl:=cnt_lt (v:=v) (k:=9) (by omega)
    rw [hro]
    simp only [ifA]
    simp only [zW,zX,zD,builtinA,isLeaf,const1,ustrA,simprocAttr,ti36,ca198,ca199,cf,Tryz.results111]
    refine callK_intro (by simp only [zW,zX,zD,builtinA,isLeaf,const1,ustrA,simprocAttr]; rfl) (impl_withinLimits v (by omega) _) ?_ rfl; rintro v A' ⟨rfl,rfl⟩
    by_cases hc : cnt v ≤ 63
    · have h8 : dep v ≤ 8:=by omega
      rw [decide_eq_true hc,decide_eq_true h8]
      simp only [zW,zX,zD,builtinA,isLeaf,const1,ustrA,simprocAttr,ti36,ca198,ca199,cf,Tryz.results111]
      exact .inl ⟨v,rfl,⟨hv,h8,hc⟩,rfl⟩
    · have hn : validB (toTy v) = false:=by
        rw [validB,count_toTy,decide_eq_false hc,Bool.and_false]
      rw [decide_eq_false hc]
      simp only [zW,zX,zD,builtinA,isLeaf,const1,ustrA,simprocAttr,ti36,ca198,ca199,cf,Tryz.results111]
      exact .inr hn
end Go.Proofs.YtnjdbgiincliaaaGreat
/- From a law's argument of the recursive type to a tree. -/
set_option linter.unusedVariables false
set_option linter.unusedSimpArgs false
namespace Go.Proofs.YtnjdbgiincliaaaGreat
open Go.Abs Go.RowKit Go.ChangeShapes Go.WideShapes Go.ChangeAt Go.ChangeMaps
theorem c3 : Tryz.prog.cellsOf 3 = 1:=by kernel_rfl
section
variable {H : Type} {enc' : TypeId × Value → H} {W : World}
end
end Go.Proofs.YtnjdbgiincliaaaGreat
/- Expressions as trees, and what the laws' helpers do with them. -/
set_option linter.unusedVariables false
set_option linter.unusedSimpArgs false
namespace Go.Proofs.YtnjdbgiincliaaaGreat
open Go.Abs
inductive Ex where
  | mk (kind n : Int) (mod name : List UInt8) (arg : Ty) (kids : List Ex)
theorem Ex.ind {M : Ex → Prop} (h : ∀ k i m n t ks,(∀ x ∈ ks,M x) → M (.mk k i m n t ks)) : ∀ x,M x
  | .mk k i m n t ks=>h k i m n t ks fun x hx=>Ex.ind h x
termination_by x=>SizeOf.sizeOf x
decreasing_by
  have:=List.sizeOf_lt_of_mem hx
  simp only [Ex.mk.sizeOf_spec]
  omega
theorem encT4 (t : Ty) : enc t = [.int .i64 t.kind,.str t.mod,.str t.name,.slice (encs t.kids)]:=by cases t; rw [enc]; rfl
mutual
def encX : Ex → List AV
  | .mk k i m n t ks=>[.int .i64 k,.int .i64 i,.str m,.str n,.int .i64 t.kind,.str t.mod,.str t.name,.slice (encs t.kids),.slice (encXs ks)]
def encXs : List Ex → List (List AV)
  | []=>[]
  | x :: l=>encX x :: encXs l
end
mutual
def szX : Ex → Nat
  | .mk _ _ m n t ks=>m.length + n.length + sz t + (ks.length + szXs ks)
def szXs : List Ex → Nat
  | []=>0
  | x :: l=>szX x + szXs l
end
inductive Ex.Ok : Ex → Prop
  | mk {k i : Int} {m n : List UInt8} {t : Ty} {ks : List Ex} : m.length < 2 ^ 63 → n.length < 2 ^ 63 → t.Ok → ks.length < 2 ^ 63 → (∀ x ∈ ks,Ex.Ok x) → Ex.Ok (.mk k i m n t ks)
def ex0 : Ex:=.mk 0 0 [] [] ty0 []
def zex : List AV:=[.int .i64 0,.int .i64 0,.str [],.str [],.int .i64 0,.str [],.str [],.slice [],.slice []]
theorem encXs_map : ∀ l,encXs l = l.map encX
  | []=>rfl
  | t :: l=>by rw [encXs,encXs_map l]; rfl
theorem encXs_length (l : List Ex) : (encXs l).length = l.length:=by rw [encXs_map]; simp
theorem encXs_getD {l : List Ex} {i : Nat} (h : i < l.length) : (encXs l).getD i [] = encX (l.getD i ex0):=by
  rw [encXs_map]; simp [List.getD,h]
theorem encX_length (t : Ex) : (encX t).length = 9:=by cases t; rw [encX]; rfl
theorem encX_take (t : Ex) : List.take 9 (encX t) = encX t:=by cases t; rw [encX]; rfl
theorem encX_leaf (t : Ex) : ∀ v ∈ encX t,isLeaf v = true:=by cases t; rw [encX]; simp [isLeaf]
theorem frzL_encX (t : Ex) (A : List Box) : frzL (encX t) A = some (encX t,A):=by cases t; rw [encX]; rfl
theorem ex_mem {l : List Ex} {i : Nat} (h : i < l.length) : l.getD i ex0 ∈ l:=by simp [List.getD,h]
theorem ex_take {l : List Ex} {i : Nat} (h : i < l.length) : l.take (i + 1) = l.take i ++ [l.getD i ex0]:=by
  rw [List.take_add_one]; simp [List.getD,h]
theorem szXs_mem {t : Ex} {l : List Ex} (h : t ∈ l) : szX t ≤ szXs l:=by
  induction l with
  | nil=>simp at h
  | cons u l ih =>
    rw [szXs]
    rcases List.mem_cons.1 h with rfl | h
    · omega
    · have:=ih h; omega
end Go.Proofs.YtnjdbgiincliaaaGreat
/- Valid expressions as data. -/
set_option linter.unusedVariables false
set_option linter.unusedSimpArgs false
namespace Go.Proofs.YtnjdbgiincliaaaGreat
open Go.Abs
inductive VE where
  | var (i : Int)
  | num (i : Int)
  | nm (m n : List UInt8)
  | fn (t : VT) (b : VE)
  | app (f a : VE)
  | add (a b : VE)
  | ite (c a b : VE)
def toX : VE → Ex
  | .var i=>.mk 1 i [] [] ty0 []
  | .num i=>.mk 2 i [] [] ty0 []
  | .nm m n=>.mk 3 0 m n ty0 []
  | .fn t b=>.mk 4 0 [] [] (toTy t) [toX b]
  | .app f a=>.mk 5 0 [] [] ty0 [toX f,toX a]
  | .add a b=>.mk 6 0 [] [] ty0 [toX a,toX b]
  | .ite c a b=>.mk 7 0 [] [] ty0 [toX c,toX a,toX b]
def depE : VE → Nat
  | .var _=>1
  | .num _=>1
  | .nm _ _=>1
  | .fn _ b=>1 + depE b
  | .app f a=>1 + max (depE f) (depE a)
  | .add a b=>1 + max (depE a) (depE b)
  | .ite c a b=>1 + max (depE c) (max (depE a) (depE b))
def cntE : VE → Nat
  | .var _=>1
  | .num _=>1
  | .nm _ _=>1
  | .fn _ b=>1 + cntE b
  | .app f a=>1 + cntE f + cntE a
  | .add a b=>1 + cntE a + cntE b
  | .ite c a b=>1 + cntE c + cntE a + cntE b
def okE : VE → Prop
  | .var i=>0 ≤ i ∧ i ≤ 12
  | .num i=>0 ≤ i ∧ i ≤ 99
  | .nm m n=>nmB m n = true
  | .fn t b=>VOk t ∧ okE b
  | .app f a=>okE f ∧ okE a
  | .add a b=>okE a ∧ okE b
  | .ite c a b=>okE c ∧ okE a ∧ okE b
mutual
def countX : Ex → Nat
  | .mk _ _ _ _ _ ks=>1 + countXs ks
def countXs : List Ex → Nat
  | []=>0
  | x :: l=>countX x + countXs l
end
mutual
theorem countX_sz : ∀ t,countX t ≤ 1 + szX t
  | .mk k i m n t ks=>by rw [countX,szX]; have:=countXs_sz ks; omega
theorem countXs_sz : ∀ l,countXs l ≤ l.length + szXs l
  | []=>by simp [countXs]
  | t :: l=>by rw [countXs,szXs,List.length_cons]; have:=countX_sz t; have:=countXs_sz l; omega
end
theorem countX_toX : ∀ v,countX (toX v) = cntE v
  | .var _=>by simp [toX,countX,countXs,cntE]
  | .num _=>by simp [toX,countX,countXs,cntE]
  | .nm _ _=>by simp [toX,countX,countXs,cntE]
  | .fn t b=>by simp [toX,countX,countXs,cntE,countX_toX b]
  | .app a b=>by simp [toX,countX,countXs,cntE,countX_toX a,countX_toX b]; omega
  | .add a b=>by simp [toX,countX,countXs,cntE,countX_toX a,countX_toX b]; omega
  | .ite c a b=>by simp [toX,countX,countXs,cntE,countX_toX a,countX_toX b,countX_toX c]; omega
def kidsX (k : Int) : Int:=if k = 1 then 0 else if k = 2 then 0 else if k = 3 then 0 else if k = 4 then 1 else if k = 5 then 2 else if k = 6 then 2 else if k = 7 then 3 else -1
noncomputable def ownX (k i : Int) (m n : List UInt8) (t : Ty) : Bool :=
  if k = 3 then decide (i = 0) && decide (t = ty0) && localB n && (decide (m = []) || moduleB m)
  else decide (m = []) && decide (n = []) && (if k = 1 then decide (0 ≤ i) && decide (i ≤ 12) && decide (t = ty0) else if k = 2 then decide (0 ≤ i) && decide (i ≤ 99) && decide (t = ty0)
    else if k = 4 then decide (i = 0) && validB t else decide (i = 0) && decide (t = ty0))
mutual
noncomputable def shapeX : Ex → Int → Bool
  | .mk k i m n t ks,d=>decide (1 ≤ d) && (decide (kidsX k = ks.length) && ownX k i m n t) && shapeXs ks (d - 1)
noncomputable def shapeXs : List Ex → Int → Bool
  | [],_=>true
  | x :: l,d=>shapeX x d && shapeXs l d
end
theorem shapeXs_take {l : List Ex} {i : Nat} (h : i < l.length) (d : Int) : shapeXs (l.take (i + 1)) d = (shapeXs (l.take i) d && shapeX (l.getD i ex0) d):=by
  induction l generalizing i with
  | nil=>simp at h
  | cons t l ih =>
    cases i with
    | zero=>simp [shapeXs,List.getD]
    | succ i =>
      have:=ih (i:=i) (by simpa using h)
      simp only [List.take_succ_cons,shapeXs,List.getD_cons_succ] at this ⊢
      rw [this,Bool.and_assoc]
theorem shapeXs_false {l : List Ex} {i : Nat} {d : Int} (h : i < l.length) (hs : shapeX (l.getD i ex0) d = false) : shapeXs l d = false:=by
  induction l generalizing i with
  | nil=>simp at h
  | cons t l ih =>
    rw [shapeXs]
    cases i with
    | zero=>have : shapeX t d = false:=hs; rw [this]; rfl
    | succ i=>rw [ih (i:=i) (by simpa using h) (by simpa using hs)]; simp
theorem depE_pos : ∀ v,1 ≤ depE v
  | .var _ | .num _ | .nm _ _=>by simp [depE]
  | .fn _ _ | .app _ _ | .add _ _ | .ite _ _ _=>by simp [depE]
theorem shapeX_toX : ∀ (v : VE) (d : Int),okE v → (depE v : Int) ≤ d → shapeX (toX v) d = true
  | .var i,d,hv,h=>by
    simp only [depE] at h; obtain ⟨h1,h2⟩:=hv
    simp [toX,shapeX,shapeXs,kidsX,ownX,h1,h2]; omega
  | .num i,d,hv,h=>by
    simp only [depE] at h; obtain ⟨h1,h2⟩:=hv
    simp [toX,shapeX,shapeXs,kidsX,ownX,h1,h2]; omega
  | .nm m n,d,hv,h=>by
    simp only [depE] at h
    simp [okE,nmB] at hv
    simp [toX,shapeX,shapeXs,kidsX,ownX,hv.1,hv.2]; omega
  | .fn t b,d,hv,h=>by
    simp only [depE] at h; obtain ⟨h1,h2⟩:=hv
    have hb:=shapeX_toX b (d - 1) h2 (by omega)
    simp [toX,shapeX,shapeXs,kidsX,ownX,hb,validB_toTy h1]; omega
  | .app a b,d,hv,h=>by
    simp only [depE] at h; obtain ⟨h1,h2⟩:=hv
    have ha:=shapeX_toX a (d - 1) h1 (by omega)
    have hb:=shapeX_toX b (d - 1) h2 (by omega)
    simp [toX,shapeX,shapeXs,kidsX,ownX,ha,hb]; omega
  | .add a b,d,hv,h=>by
    simp only [depE] at h; obtain ⟨h1,h2⟩:=hv
    have ha:=shapeX_toX a (d - 1) h1 (by omega)
    have hb:=shapeX_toX b (d - 1) h2 (by omega)
    simp [toX,shapeX,shapeXs,kidsX,ownX,ha,hb]; omega
  | .ite c a b,d,hv,h=>by
    simp only [depE] at h; obtain ⟨h0,h1,h2⟩:=hv
    have hc:=shapeX_toX c (d - 1) h0 (by omega)
    have ha:=shapeX_toX a (d - 1) h1 (by omega)
    have hb:=shapeX_toX b (d - 1) h2 (by omega)
    simp [toX,shapeX,shapeXs,kidsX,ownX,ha,hb,hc]; omega
theorem len0 {l : List Ex} (h : (0 : Int) = l.length) : l = []:=List.length_eq_zero_iff.1 (by omega)
theorem len1 {l : List Ex} (h : (1 : Int) = l.length) : ∃ a,l = [a]:=by
  match l,h with
  | [a],_=>exact ⟨a,rfl⟩
  | [],h=>simp at h
  | _ :: _ :: _,h=>simp at h; omega
theorem len2 {l : List Ex} (h : (2 : Int) = l.length) : ∃ a b,l = [a,b]:=by
  match l,h with
  | [a,b],_=>exact ⟨a,b,rfl⟩
  | [],h=>simp at h
  | [_],h=>simp at h
  | _ :: _ :: _ :: _,h=>simp at h; omega
theorem len3 {l : List Ex} (h : (3 : Int) = l.length) : ∃ a b c,l = [a,b,c]:=by
  match l,h with
  | [a,b,c],_=>exact ⟨a,b,c,rfl⟩
  | [],h=>simp at h
  | [_],h=>simp at h
  | [_,_],h=>simp at h
  | _ :: _ :: _ :: _ :: _,h=>simp at h; omega
theorem shapeX_of (x : Ex) : ∀ (d : Int),shapeX x d = true → ∃ v,x = toX v ∧ okE v ∧ (depE v : Int) ≤ d:=by
  induction x using Ex.ind with
  | h k i m n t ks ih =>
    intro d h
    rw [shapeX] at h
    simp only [Bool.and_eq_true,decide_eq_true_eq] at h
    obtain ⟨⟨h1,h2,h3⟩,h4⟩:=h
    by_cases k1 : k = 1
    · subst k1
      simp only [kidsX,if_true] at h2
      obtain rfl:=len0 h2
      simp [ownX] at h3
      obtain ⟨⟨rfl,rfl⟩,⟨h5,h6⟩,rfl⟩:=h3
      exact ⟨.var i,rfl,⟨h5,h6⟩,h1⟩
    by_cases k2 : k = 2
    · subst k2
      simp [kidsX] at h2
      obtain rfl:=len0 h2
      simp [ownX] at h3
      obtain ⟨⟨rfl,rfl⟩,⟨h5,h6⟩,rfl⟩:=h3
      exact ⟨.num i,rfl,⟨h5,h6⟩,h1⟩
    by_cases k3 : k = 3
    · subst k3
      simp [kidsX] at h2
      obtain rfl:=len0 h2
      simp [ownX] at h3
      obtain ⟨⟨⟨rfl,rfl⟩,h5⟩,h6⟩:=h3
      exact ⟨.nm m n,rfl,by simp [okE,nmB,h5,h6],h1⟩
    by_cases k4 : k = 4
    · subst k4
      simp [kidsX] at h2
      obtain ⟨b,rfl⟩:=len1 h2
      simp [ownX] at h3
      obtain ⟨⟨rfl,rfl⟩,rfl,h5⟩:=h3
      rcases valid_cases t with ⟨u,rfl,hu⟩ | hn
      · simp only [shapeXs,Bool.and_true] at h4
        obtain ⟨v,rfl,v1,v2⟩:=ih b (by simp) _ h4
        exact ⟨.fn u v,rfl,⟨hu,v1⟩,by simp only [depE]; omega⟩
      · rw [hn] at h5; cases h5
    by_cases k5 : k = 5
    · subst k5
      simp [kidsX] at h2
      obtain ⟨a,b,rfl⟩:=len2 h2
      simp [ownX] at h3
      obtain ⟨⟨rfl,rfl⟩,rfl,rfl⟩:=h3
      simp only [shapeXs,Bool.and_true,Bool.and_eq_true] at h4
      obtain ⟨u,rfl,u1,u2⟩:=ih a (by simp) _ h4.1
      obtain ⟨v,rfl,v1,v2⟩:=ih b (by simp) _ h4.2
      exact ⟨.app u v,rfl,⟨u1,v1⟩,by simp only [depE]; omega⟩
    by_cases k6 : k = 6
    · subst k6
      simp [kidsX] at h2
      obtain ⟨a,b,rfl⟩:=len2 h2
      simp [ownX] at h3
      obtain ⟨⟨rfl,rfl⟩,rfl,rfl⟩:=h3
      simp only [shapeXs,Bool.and_true,Bool.and_eq_true] at h4
      obtain ⟨u,rfl,u1,u2⟩:=ih a (by simp) _ h4.1
      obtain ⟨v,rfl,v1,v2⟩:=ih b (by simp) _ h4.2
      exact ⟨.add u v,rfl,⟨u1,v1⟩,by simp only [depE]; omega⟩
    by_cases k7 : k = 7
    · subst k7
      simp [kidsX] at h2
      obtain ⟨c,a,b,rfl⟩:=len3 h2
      simp [ownX] at h3
      obtain ⟨⟨rfl,rfl⟩,rfl,rfl⟩:=h3
      simp only [shapeXs,Bool.and_true,Bool.and_eq_true] at h4
      obtain ⟨w,rfl,w1,w2⟩:=ih c (by simp) _ h4.1
      obtain ⟨u,rfl,u1,u2⟩:=ih a (by simp) _ h4.2.1
      obtain ⟨v,rfl,v1,v2⟩:=ih b (by simp) _ h4.2.2
      exact ⟨.ite w u v,rfl,⟨w1,u1,v1⟩,by simp only [depE]; omega⟩
    · exfalso
      simp [kidsX,k1,k2,k3,k4,k5,k6,k7] at h2
      try omega
mutual
def cntU : Ex → Int → Int
  | .mk _ _ _ _ _ ks,most=>cntUs ks most 1
def cntUs : List Ex → Int → Int → Int
  | [],_,n=>n
  | x :: l,most,n=>if n ≤ most then cntUs l most (n + cntU x (most - n)) else n
end
mutual
theorem cntU_is : ∀ (x : Ex) (most : Int),0 ≤ most → 1 ≤ cntU x most ∧ cntU x most ≤ countX x ∧ ((countX x : Int) ≤ most → cntU x most = countX x) ∧ (most < countX x → most < cntU x most)
  | .mk _ _ _ _ _ ks,most,h=>by
    have:=cntUs_is ks most 1 (by omega) (by omega)
    simp only [countX,cntU]
    refine ⟨by omega,by omega,fun hh=>?_,fun hh=>?_⟩
    · rw [this.2.2.1 (by omega)]; omega
    · exact this.2.2.2 (by omega)
theorem cntUs_is : ∀ (l : List Ex) (most n : Int),0 ≤ most → 0 ≤ n → n ≤ cntUs l most n ∧ cntUs l most n ≤ n + countXs l ∧ (n + countXs l ≤ most → cntUs l most n = n + countXs l) ∧ (most < n + countXs l → most < cntUs l most n)
  | [],most,n,h,hn=>by simp [cntUs,countXs]
  | x :: l,most,n,h,hn=>by
    rw [cntUs,countXs]
    by_cases hh : n ≤ most
    · rw [if_pos hh]
      obtain ⟨a1,a2,a3,a4⟩:=cntU_is x (most - n) (by omega)
      obtain ⟨b1,b2,b3,b4⟩:=cntUs_is l most (n + cntU x (most - n)) h (by omega)
      refine ⟨by omega,by omega,fun q=>?_,fun q=>?_⟩
      · have:=a3 (by omega)
        rw [b3 (by omega),this]; omega
      · by_cases hq : (countX x : Int) ≤ most - n
        · have:=a3 hq
          exact b4 (by omega)
        · have:=a4 (by omega)
          omega
    · rw [if_neg hh]
      omega
end
noncomputable def validX (x : Ex) : Bool:=shapeX x 40 && decide (countX x ≤ 400)
structure EOk (v : VE) : Prop where
  ok : okE v
  dep : depE v ≤ 40
  cnt : cntE v ≤ 400
theorem validX_toX {v : VE} (h : EOk v) : validX (toX v) = true:=by
  rw [validX,shapeX_toX v 40 h.ok (by have:=h.dep; omega),countX_toX,decide_eq_true h.cnt]; rfl
theorem validX_cases (x : Ex) : (∃ v,x = toX v ∧ EOk v) ∨ validX x = false:=by
  cases h : validX x with
  | false=>exact .inr rfl
  | true =>
    left
    rw [validX,Bool.and_eq_true,decide_eq_true_eq] at h
    obtain ⟨v,rfl,h1,h2⟩:=shapeX_of x 40 h.1
    rw [countX_toX] at h
    exact ⟨v,rfl,h1,by omega,h.2⟩
theorem toTy_inj' : ∀ {v v' : VT},toTy v = toTy v' → v = v'
  | .num,.num,_=>rfl
  | .num,.nm _ _,h=>by simp [toTy] at h
  | .num,.fn _ _,h=>by simp [toTy] at h
  | .nm _ _,.num,h=>by simp [toTy] at h
  | .nm _ _,.fn _ _,h=>by simp [toTy] at h
  | .fn _ _,.num,h=>by simp [toTy] at h
  | .fn _ _,.nm _ _,h=>by simp [toTy] at h
  | .nm m n,.nm m' n',h=>by simp [toTy] at h; rw [h.1,h.2]
  | .fn a b,.fn a' b',h=>by
    simp [toTy] at h
    rw [toTy_inj' h.1,toTy_inj' h.2]
theorem toX_inj : ∀ {v v' : VE},toX v = toX v' → v = v'
  | .var _,v',h=>by cases v' <;> simp [toX] at h; rw [h]
  | .num _,v',h=>by cases v' <;> simp [toX] at h; rw [h]
  | .nm _ _,v',h=>by cases v' <;> simp [toX] at h; rw [h.1,h.2]
  | .fn t b,v',h=>by
    cases v' <;> simp [toX] at h
    rw [toTy_inj' h.1,toX_inj h.2]
  | .app a b,v',h=>by
    cases v' <;> simp [toX] at h
    rw [toX_inj h.1,toX_inj h.2]
  | .add a b,v',h=>by
    cases v' <;> simp [toX] at h
    rw [toX_inj h.1,toX_inj h.2]
  | .ite c a b,v',h=>by
    cases v' <;> simp [toX] at h
    rw [toX_inj h.1,toX_inj h.2.1,toX_inj h.2.2]
end Go.Proofs.YtnjdbgiincliaaaGreat
