/- TypesImpl, TypesVal, TypesMeth, SameSp, Zero. -/
import Derived.Test.YtnjdbgiincliaaaGreatN00
import Derived.Test.YtnjdbgiincliaaaGreatAbsW3
/- Types as trees: what the program's own functions read of them. -/
set_option linter.unusedVariables false
set_option linter.unusedSimpArgs false
namespace Go.Proofs.YtnjdbgiincliaaaGreat
open Go.Abs
def ifA : Option (TypeId × AV) → AV
  | none=>.nili
  | some (t,x)=>.iface t x
def pairUp : List (Option (TypeId × AV) × Bool) → Option (TypeId × AV) × Bool
  | [(x,true),(y,ok)]=>(some (422,.agg [ifA x,ifA y]),ok)
  | _=>(none,false)
mutual
def readO : Ty → Int → Option (TypeId × AV) × Bool
  | .mk k m n ks,d =>
    if 8 < d then (none,false)
    else if k = 1 then (some (369,.agg []),(decide (m = []) && decide (n = [])) && decide ((ks.length : Int) = 0))
    else if k = 2 then (if m = [] then if n = [] then pairUp (readOs ks (d + 1)) else (none,false) else (none,false))
    else if k = 3 then (some (180,.agg [.str m,.str n]),((decide (m = []) || moduleB m) && localB n) && decide ((ks.length : Int) = 0))
    else (none,false)
def readOs : List Ty → Int → List (Option (TypeId × AV) × Bool)
  | [],_=>[]
  | t :: l,d=>readO t d :: readOs l d
end
theorem readOs_length (l : List Ty) (d : Int) : (readOs l d).length = l.length:=by
  induction l with
  | nil=>rfl
  | cons t l ih=>rw [readOs,List.length_cons,ih,List.length_cons]
theorem pairUp_no {l : List (Option (TypeId × AV) × Bool)} (h : ¬ (l.length : Int) = 2) : pairUp l = (none,false):=by
  match l,h with
  | [],_=>rfl
  | [_],_=>simp [pairUp]
  | [_,_],h=>exact absurd rfl h
  | _ :: _ :: _ :: _,_=>simp [pairUp]
def ReadT (t : Ty) : Prop:=∀ (d : Int) (A : List Box),0 ≤ d → d ≤ 9 → ACalls Tryz.prog 198 [.agg (enc t),.int .i64 d] A (fun v A'=>v = .tuple [ifA (readO t d).1,.bool (readO t d).2] ∧ A' = A)
set_option maxRecDepth 100000 in
theorem impl_readFun (m n : List UInt8) (ks : List Ty) (d : Int) (h0 : 0 ≤ d) (h1 : d ≤ 8) (hk : ∀ t ∈ ks,ReadT t) (A : List Box) :
    ACalls Tryz.prog 260 [.agg (enc (.mk 2 m n ks)),.int .i64 d] A (fun v A'=>v = .tuple [ifA (readO (.mk 2 m n ks) d).1,.bool (readO (.mk 2 m n ks) d).2] ∧ A' = A):=by
  have hw : IntKind.i64.wrap (d + 1) = d + 1:=wrap64 (by omega) (by omega)
  have hl : ((encs ks).length : Int) = ks.length:=by rw [encs_length]
  rw [enc,readO,if_neg (by omega),if_neg (by omega),if_pos rfl]
  refine acalls_enter (cf:=cf 50 [0,1,2,4,5,6,7,8,22,34]) foll Tryz.func260 Tryz.ntmps260 (by simp [cf]) ?_
  simp only [Tryz.f260,EnterK_some,zW,zX,zD,builtinA,isLeaf,const1,Nat.reduceAdd,Nat.reduceMul,Nat.reduceSub,Nat.reduceLT,Nat.reduceLeDiff,Nat.reduceEqDiff,Nat.reduceBEq,Nat.reduceBNe,reduceIte,reduceCtorEq,Int.reduceToNat,Int.reduceLT,Int.reduceLE,Int.reduceEq,Int.reduceNe,Int.reduceNeg,ustrA,ti3,ti9,ti34,ti36,ti422,ca198,cf,Tryz.results260]
  by_cases hm : m = []
  · rw [if_pos hm]
    by_cases hn : n = []
    · rw [if_pos hn]
      by_cases h2 : (ks.length : Int) = 2
      · match ks,h2,hk with
        | [a,b],_,hk =>
          have ha:=hk a (by simp)
          have hb:=hk b (by simp)
          clear hl
          simp only [encs]
          have h22 : decide (((2 : Nat) : Int) = 2) = true:=rfl
          simp only [zW,zX,zD,builtinA,isLeaf,const1,Nat.reduceAdd,Nat.reduceMul,Nat.reduceSub,Nat.reduceLT,Nat.reduceLeDiff,Nat.reduceEqDiff,Nat.reduceBEq,Nat.reduceBNe,reduceIte,reduceCtorEq,Int.reduceToNat,Int.reduceLT,Int.reduceLE,Int.reduceEq,Int.reduceNe,Int.reduceNeg,ustrA,ti3,ti9,ti34,ti36,ti422,ca198,cf,Tryz.results260,decide_eq_true hm,decide_eq_true hn,h22,Bool.not_true,enc_length,enc_take,hw]
          refine ⟨by decide,?_⟩
          refine callK_intro (by simp only [zW,zX,zD,builtinA,isLeaf,const1,Nat.reduceAdd,Nat.reduceMul,Nat.reduceSub,Nat.reduceLT,Nat.reduceLeDiff,Nat.reduceEqDiff,Nat.reduceBEq,Nat.reduceBNe,reduceIte,reduceCtorEq,Int.reduceToNat,Int.reduceLT,Int.reduceLE,Int.reduceEq,Int.reduceNe,Int.reduceNeg,ustrA,frzL_enc,Option.map_some,hw]; rfl) (ha _ _ (by omega) (by omega)) ?_ rfl; rintro v A' ⟨rfl,rfl⟩
          rw [readOs,readOs,readOs]
          rcases readO a (d + 1) with ⟨x,_ | _⟩
          · simp only [zW,zX,zD,builtinA,isLeaf,const1,Nat.reduceAdd,Nat.reduceMul,Nat.reduceSub,Nat.reduceLT,Nat.reduceLeDiff,Nat.reduceEqDiff,Nat.reduceBEq,Nat.reduceBNe,reduceIte,reduceCtorEq,Int.reduceToNat,Int.reduceLT,Int.reduceLE,Int.reduceEq,Int.reduceNe,Int.reduceNeg,ustrA,ti3,ti9,ti34,ti36,ti422,ca198,cf,Tryz.results260,pairUp,ifA]
          · simp only [zW,zX,zD,builtinA,isLeaf,const1,Nat.reduceAdd,Nat.reduceMul,Nat.reduceSub,Nat.reduceLT,Nat.reduceLeDiff,Nat.reduceEqDiff,Nat.reduceBEq,Nat.reduceBNe,reduceIte,reduceCtorEq,Int.reduceToNat,Int.reduceLT,Int.reduceLE,Int.reduceEq,Int.reduceNe,Int.reduceNeg,ustrA,ti3,ti9,ti34,ti36,ti422,ca198,cf,Tryz.results260,enc_length,enc_take,hw]
            refine ⟨by decide,?_⟩
            refine callK_intro (by simp only [zW,zX,zD,builtinA,isLeaf,const1,Nat.reduceAdd,Nat.reduceMul,Nat.reduceSub,Nat.reduceLT,Nat.reduceLeDiff,Nat.reduceEqDiff,Nat.reduceBEq,Nat.reduceBNe,reduceIte,reduceCtorEq,Int.reduceToNat,Int.reduceLT,Int.reduceLE,Int.reduceEq,Int.reduceNe,Int.reduceNeg,ustrA,frzL_enc,Option.map_some,hw]; rfl) (hb _ _ (by omega) (by omega)) ?_ rfl; rintro v A' ⟨rfl,rfl⟩
            rcases x with _ | ⟨t1,x1⟩ <;> rcases readO b (d + 1) with ⟨_ | ⟨t2,x2⟩,ok⟩ <;> simp only [ifA,pairUp] <;> simp only [zW,zX,zD,builtinA,isLeaf,const1,Nat.reduceAdd,Nat.reduceMul,Nat.reduceSub,Nat.reduceLT,Nat.reduceLeDiff,Nat.reduceEqDiff,Nat.reduceBEq,Nat.reduceBNe,reduceIte,reduceCtorEq,Int.reduceToNat,Int.reduceLT,Int.reduceLE,Int.reduceEq,Int.reduceNe,Int.reduceNeg,ustrA,ti3,ti9,ti34,ti36,ti422,ca198,cf,Tryz.results260]
      · rw [pairUp_no (by rw [readOs_length]; exact h2)]
        simp only [zW,zX,zD,builtinA,isLeaf,const1,Nat.reduceAdd,Nat.reduceMul,Nat.reduceSub,Nat.reduceLT,Nat.reduceLeDiff,Nat.reduceEqDiff,Nat.reduceBEq,Nat.reduceBNe,reduceIte,reduceCtorEq,Int.reduceToNat,Int.reduceLT,Int.reduceLE,Int.reduceEq,Int.reduceNe,Int.reduceNeg,ustrA,ti3,ti9,ti34,ti36,ti422,ca198,cf,Tryz.results260,hl,decide_eq_true hm,decide_eq_true hn,decide_eq_false h2,Bool.not_true,Bool.not_false,ifA]
    · rw [if_neg hn]
      simp only [zW,zX,zD,builtinA,isLeaf,const1,Nat.reduceAdd,Nat.reduceMul,Nat.reduceSub,Nat.reduceLT,Nat.reduceLeDiff,Nat.reduceEqDiff,Nat.reduceBEq,Nat.reduceBNe,reduceIte,reduceCtorEq,Int.reduceToNat,Int.reduceLT,Int.reduceLE,Int.reduceEq,Int.reduceNe,Int.reduceNeg,ustrA,ti3,ti9,ti34,ti36,ti422,ca198,cf,Tryz.results260,decide_eq_true hm,decide_eq_false hn,Bool.not_true,Bool.not_false,ifA]
  · rw [if_neg hm]
    simp only [zW,zX,zD,builtinA,isLeaf,const1,Nat.reduceAdd,Nat.reduceMul,Nat.reduceSub,Nat.reduceLT,Nat.reduceLeDiff,Nat.reduceEqDiff,Nat.reduceBEq,Nat.reduceBNe,reduceIte,reduceCtorEq,Int.reduceToNat,Int.reduceLT,Int.reduceLE,Int.reduceEq,Int.reduceNe,Int.reduceNeg,ustrA,ti3,ti9,ti34,ti36,ti422,ca198,cf,Tryz.results260,decide_eq_false hm,Bool.not_false,ifA]
set_option maxRecDepth 100000 in
theorem impl_readNode (τ : Ty) : ReadT τ:=by
  induction τ using Ty.ind with
  | h k m n ks ih =>
    intro d A h0 h1
    have hl : ((encs ks).length : Int) = ks.length:=by rw [encs_length]
    rw [enc]
    refine acalls_enter (cf:=cf 54 [0,1,2,4,5,7,9,10,28,35]) foll Tryz.func198 Tryz.ntmps198 (by simp [cf]) ?_
    simp only [Tryz.f198,EnterK_some,zW,zX,zD,builtinA,isLeaf,const1,Nat.reduceAdd,Nat.reduceMul,Nat.reduceSub,Nat.reduceLT,Nat.reduceLeDiff,Nat.reduceEqDiff,Nat.reduceBEq,Nat.reduceBNe,reduceIte,reduceCtorEq,Int.reduceToNat,Int.reduceLT,Int.reduceLE,Int.reduceEq,Int.reduceNe,Int.reduceNeg,ustrA,ti3,ti9,ti34,ti36,ti180,ti369,ca260,ca261,cf,Tryz.results198]
    by_cases h8 : 8 < d
    · rw [readO,if_pos h8]
      simp only [zW,zX,zD,builtinA,isLeaf,const1,Nat.reduceAdd,Nat.reduceMul,Nat.reduceSub,Nat.reduceLT,Nat.reduceLeDiff,Nat.reduceEqDiff,Nat.reduceBEq,Nat.reduceBNe,reduceIte,reduceCtorEq,Int.reduceToNat,Int.reduceLT,Int.reduceLE,Int.reduceEq,Int.reduceNe,Int.reduceNeg,ustrA,ti3,ti9,ti34,ti36,ti180,ti369,ca260,ca261,cf,Tryz.results198,decide_eq_true h8,ifA]
    · by_cases k1 : k = 1
      · rw [readO,if_neg h8,if_pos k1]
        simp only [zW,zX,zD,builtinA,isLeaf,const1,Nat.reduceAdd,Nat.reduceMul,Nat.reduceSub,Nat.reduceLT,Nat.reduceLeDiff,Nat.reduceEqDiff,Nat.reduceBEq,Nat.reduceBNe,reduceIte,reduceCtorEq,Int.reduceToNat,Int.reduceLT,Int.reduceLE,Int.reduceEq,Int.reduceNe,Int.reduceNeg,ustrA,ti3,ti9,ti34,ti36,ti180,ti369,ca260,ca261,cf,Tryz.results198,decide_eq_false h8,decide_eq_true k1,hl]
        refine .inl ⟨by kernel_rfl,by kernel_rfl,?_⟩
        repeat' first
          | (refine guardT_intro (fun h=>?_) (fun h=>?_) <;> (try simp only [decide_eq_true_eq,decide_eq_false_iff_not,Bool.not_eq_eq_eq_not,Bool.not_true,Bool.not_false] at h) <;> simp only [zW,zX,zD,builtinA,isLeaf,const1,Nat.reduceAdd,Nat.reduceMul,Nat.reduceSub,Nat.reduceLT,Nat.reduceLeDiff,Nat.reduceEqDiff,Nat.reduceBEq,Nat.reduceBNe,reduceIte,reduceCtorEq,Int.reduceToNat,Int.reduceLT,Int.reduceLE,Int.reduceEq,Int.reduceNe,Int.reduceNeg,ustrA,ti3,ti9,ti34,ti36,ti180,ti369,ca260,ca261,cf,Tryz.results198,hl,h])
          | (refine guardF_intro (fun h=>?_) (fun h=>?_) <;> (try simp only [decide_eq_true_eq,decide_eq_false_iff_not,Bool.not_eq_eq_eq_not,Bool.not_true,Bool.not_false] at h) <;> simp only [zW,zX,zD,builtinA,isLeaf,const1,Nat.reduceAdd,Nat.reduceMul,Nat.reduceSub,Nat.reduceLT,Nat.reduceLeDiff,Nat.reduceEqDiff,Nat.reduceBEq,Nat.reduceBNe,reduceIte,reduceCtorEq,Int.reduceToNat,Int.reduceLT,Int.reduceLE,Int.reduceEq,Int.reduceNe,Int.reduceNeg,ustrA,ti3,ti9,ti34,ti36,ti180,ti369,ca260,ca261,cf,Tryz.results198,hl,h])
          | (refine condK_intro (fun h=>?_) (fun h=>?_) <;> (try simp only [decide_eq_true_eq,decide_eq_false_iff_not,Bool.not_eq_eq_eq_not,Bool.not_true,Bool.not_false] at h) <;> simp only [zW,zX,zD,builtinA,isLeaf,const1,Nat.reduceAdd,Nat.reduceMul,Nat.reduceSub,Nat.reduceLT,Nat.reduceLeDiff,Nat.reduceEqDiff,Nat.reduceBEq,Nat.reduceBNe,reduceIte,reduceCtorEq,Int.reduceToNat,Int.reduceLT,Int.reduceLE,Int.reduceEq,Int.reduceNe,Int.reduceNeg,ustrA,ti3,ti9,ti34,ti36,ti180,ti369,ca260,ca261,cf,Tryz.results198,hl,h])
          | (refine guardDT_intro (fun h=>?_) (fun h=>?_) <;> (try simp only [decide_eq_true_eq,decide_eq_false_iff_not,Bool.not_eq_eq_eq_not,Bool.not_true,Bool.not_false] at h) <;> simp only [zW,zX,zD,builtinA,isLeaf,const1,Nat.reduceAdd,Nat.reduceMul,Nat.reduceSub,Nat.reduceLT,Nat.reduceLeDiff,Nat.reduceEqDiff,Nat.reduceBEq,Nat.reduceBNe,reduceIte,reduceCtorEq,Int.reduceToNat,Int.reduceLT,Int.reduceLE,Int.reduceEq,Int.reduceNe,Int.reduceNeg,ustrA,ti3,ti9,ti34,ti36,ti180,ti369,ca260,ca261,cf,Tryz.results198,hl,h])
          | (refine guardDF_intro (fun h=>?_) (fun h=>?_) <;> (try simp only [decide_eq_true_eq,decide_eq_false_iff_not,Bool.not_eq_eq_eq_not,Bool.not_true,Bool.not_false] at h) <;> simp only [zW,zX,zD,builtinA,isLeaf,const1,Nat.reduceAdd,Nat.reduceMul,Nat.reduceSub,Nat.reduceLT,Nat.reduceLeDiff,Nat.reduceEqDiff,Nat.reduceBEq,Nat.reduceBNe,reduceIte,reduceCtorEq,Int.reduceToNat,Int.reduceLT,Int.reduceLE,Int.reduceEq,Int.reduceNe,Int.reduceNeg,ustrA,ti3,ti9,ti34,ti36,ti180,ti369,ca260,ca261,cf,Tryz.results198,hl,h])
          | refine And.intro ?_ ?_
        all_goals simp [ifA, *]
      · by_cases k2 : k = 2
        · subst k2
          simp only [zW,zX,zD,builtinA,isLeaf,const1,Nat.reduceAdd,Nat.reduceMul,Nat.reduceSub,Nat.reduceLT,Nat.reduceLeDiff,Nat.reduceEqDiff,Nat.reduceBEq,Nat.reduceBNe,reduceIte,reduceCtorEq,Int.reduceToNat,Int.reduceLT,Int.reduceLE,Int.reduceEq,Int.reduceNe,Int.reduceNeg,ustrA,ti3,ti9,ti34,ti36,ti180,ti369,ca260,ca261,cf,Tryz.results198,decide_eq_false h8,decide_eq_false k1]
          refine callK_intro (by simp only [zW,zX,zD,builtinA,isLeaf,const1,Nat.reduceAdd,Nat.reduceMul,Nat.reduceSub,Nat.reduceLT,Nat.reduceLeDiff,Nat.reduceEqDiff,Nat.reduceBEq,Nat.reduceBNe,reduceIte,reduceCtorEq,Int.reduceToNat,Int.reduceLT,Int.reduceLE,Int.reduceEq,Int.reduceNe,Int.reduceNeg,ustrA,Option.map_some]; rfl) (impl_readFun m n ks d h0 (by omega) ih _) ?_ rfl; rintro v A' ⟨rfl,rfl⟩
          rcases readO (.mk 2 m n ks) d with ⟨_ | ⟨t,x⟩,ok⟩ <;> simp only [ifA] <;> (simp only [zW,zX,zD,builtinA,isLeaf,const1,Nat.reduceAdd,Nat.reduceMul,Nat.reduceSub,Nat.reduceLT,Nat.reduceLeDiff,Nat.reduceEqDiff,Nat.reduceBEq,Nat.reduceBNe,reduceIte,reduceCtorEq,Int.reduceToNat,Int.reduceLT,Int.reduceLE,Int.reduceEq,Int.reduceNe,Int.reduceNeg,ustrA,ti3,ti9,ti34,ti36,ti180,ti369,ca260,ca261,cf,Tryz.results198])
        · rw [readO,if_neg h8,if_neg k1,if_neg k2]
          by_cases k3 : k = 3
          · rw [if_pos k3]
            simp only [zW,zX,zD,builtinA,isLeaf,const1,Nat.reduceAdd,Nat.reduceMul,Nat.reduceSub,Nat.reduceLT,Nat.reduceLeDiff,Nat.reduceEqDiff,Nat.reduceBEq,Nat.reduceBNe,reduceIte,reduceCtorEq,Int.reduceToNat,Int.reduceLT,Int.reduceLE,Int.reduceEq,Int.reduceNe,Int.reduceNeg,ustrA,ti3,ti9,ti34,ti36,ti180,ti369,ca260,ca261,cf,Tryz.results198,decide_eq_false h8,decide_eq_false k1,decide_eq_false k2,decide_eq_true k3]
            refine .inl ⟨by kernel_rfl,by kernel_rfl,?_⟩
            refine callD_intro (by simp only [zW,zX,zD,builtinA,isLeaf,const1,Nat.reduceAdd,Nat.reduceMul,Nat.reduceSub,Nat.reduceLT,Nat.reduceLeDiff,Nat.reduceEqDiff,Nat.reduceBEq,Nat.reduceBNe,reduceIte,reduceCtorEq,Int.reduceToNat,Int.reduceLT,Int.reduceLE,Int.reduceEq,Int.reduceNe,Int.reduceNeg,ustrA,Option.map_some] <;> rfl) (impl_validName m n _) ?_ rfl
            cases hn : ((decide (m = []) || moduleB m) && localB n) with
            | true =>
              simp only [zW,zX,zD,builtinA,isLeaf,const1,Nat.reduceAdd,Nat.reduceMul,Nat.reduceSub,Nat.reduceLT,Nat.reduceLeDiff,Nat.reduceEqDiff,Nat.reduceBEq,Nat.reduceBNe,reduceIte,reduceCtorEq,Int.reduceToNat,Int.reduceLT,Int.reduceLE,Int.reduceEq,Int.reduceNe,Int.reduceNeg,ustrA,ti3,ti9,ti34,ti36,ti180,ti369,ca260,ca261,cf,Tryz.results198,hl,ifA]
            | false =>
              simp only [zW,zX,zD,builtinA,isLeaf,const1,Nat.reduceAdd,Nat.reduceMul,Nat.reduceSub,Nat.reduceLT,Nat.reduceLeDiff,Nat.reduceEqDiff,Nat.reduceBEq,Nat.reduceBNe,reduceIte,reduceCtorEq,Int.reduceToNat,Int.reduceLT,Int.reduceLE,Int.reduceEq,Int.reduceNe,Int.reduceNeg,ustrA,ti3,ti9,ti34,ti36,ti180,ti369,ca260,ca261,cf,Tryz.results198,hl,ifA]
          · rw [if_neg k3]
            simp only [zW,zX,zD,builtinA,isLeaf,const1,Nat.reduceAdd,Nat.reduceMul,Nat.reduceSub,Nat.reduceLT,Nat.reduceLeDiff,Nat.reduceEqDiff,Nat.reduceBEq,Nat.reduceBNe,reduceIte,reduceCtorEq,Int.reduceToNat,Int.reduceLT,Int.reduceLE,Int.reduceEq,Int.reduceNe,Int.reduceNeg,ustrA,ti3,ti9,ti34,ti36,ti180,ti369,ca260,ca261,cf,Tryz.results198,decide_eq_false h8,decide_eq_false k1,decide_eq_false k2,decide_eq_false k3,ifA]
end Go.Proofs.YtnjdbgiincliaaaGreat
/- Valid types as trees, and what the methods of the program answer on them. -/
set_option linter.unusedVariables false
set_option linter.unusedSimpArgs false
namespace Go.Proofs.YtnjdbgiincliaaaGreat
open Go.Abs
inductive VT where
  | num
  | fn (a b : VT)
  | nm (m n : List UInt8)
def vT : VT → TypeId
  | .num=>369
  | .fn _ _=>422
  | .nm _ _=>180
def vX : VT → AV
  | .num=>.agg []
  | .fn a b=>.agg [.iface (vT a) (vX a),.iface (vT b) (vX b)]
  | .nm m n=>.agg [.str m,.str n]
def toTy : VT → Ty
  | .num=>.mk 1 [] [] []
  | .fn a b=>.mk 2 [] [] [toTy a,toTy b]
  | .nm m n=>.mk 3 m n []
def dep : VT → Nat
  | .num=>1
  | .fn a b=>1 + max (dep a) (dep b)
  | .nm _ _=>1
def cnt : VT → Nat
  | .num=>1
  | .fn a b=>1 + cnt a + cnt b
  | .nm _ _=>1
def nmB (m n : List UInt8) : Bool:=(decide (m = []) || moduleB m) && localB n
def okV : VT → Bool
  | .num=>true
  | .fn a b=>okV a && okV b
  | .nm m n=>nmB m n
theorem dep_pos : ∀ v,1 ≤ dep v
  | .num=>by simp [dep]
  | .fn a b=>by simp [dep]
  | .nm _ _=>by simp [dep]
theorem cnt_dep : ∀ v,cnt v + 1 ≤ 2 ^ dep v
  | .num=>by simp [dep,cnt]
  | .nm _ _=>by simp [dep,cnt]
  | .fn a b=>by
    have ha:=cnt_dep a
    have hb:=cnt_dep b
    have h1 : 2 ^ dep a ≤ 2 ^ max (dep a) (dep b):=Nat.pow_le_pow_right (by decide) (Nat.le_max_left _ _)
    have h2 : 2 ^ dep b ≤ 2 ^ max (dep a) (dep b):=Nat.pow_le_pow_right (by decide) (Nat.le_max_right _ _)
    rw [dep,cnt,Nat.pow_add,Nat.pow_one]
    omega
theorem cnt_lt {v : VT} {k : Nat} (h : dep v ≤ k) : cnt v < 2 ^ k:=by
  have:=cnt_dep v
  have h2 : 2 ^ dep v ≤ 2 ^ k:=Nat.pow_le_pow_right (by decide) h
  omega
theorem count_toTy : ∀ v,count (toTy v) = cnt v
  | .num=>by simp [toTy,count,counts,cnt]
  | .nm _ _=>by simp [toTy,count,counts,cnt]
  | .fn a b=>by simp [toTy,count,counts,cnt,count_toTy a,count_toTy b]; omega
theorem shape_toTy : ∀ (v : VT) (d : Int),okV v = true → (dep v : Int) ≤ d → shape (toTy v) d = true
  | .num,d,_,h=>by
    simp [dep] at h
    simp [toTy,shape,shapes,kidsOf,ownB,h]
  | .nm m n,d,hv,h=>by
    simp [dep] at h
    simp [okV,nmB] at hv
    simp [toTy,shape,shapes,kidsOf,ownB,h,hv.1,hv.2]
  | .fn a b,d,hv,h=>by
    simp [dep] at h
    simp [okV] at hv
    have ha:=shape_toTy a (d - 1) hv.1 (by omega)
    have hb:=shape_toTy b (d - 1) hv.2 (by omega)
    simp [toTy,shape,shapes,kidsOf,ownB,ha,hb]
    have:=dep_pos a
    omega
theorem shape_of (τ : Ty) : ∀ (d : Int),shape τ d = true → ∃ v,τ = toTy v ∧ okV v = true ∧ (dep v : Int) ≤ d:=by
  induction τ using Ty.ind with
  | h k m n ks ih =>
    intro d h
    rw [shape] at h
    simp only [Bool.and_eq_true,decide_eq_true_eq] at h
    obtain ⟨⟨h1,h2,h3⟩,h4⟩:=h
    by_cases k1 : k = 1
    · subst k1
      simp [kidsOf] at h2
      have : ks = []:=by cases ks with
        | nil=>rfl
        | cons=>simp at h2; omega
      subst this
      simp [ownB] at h3
      obtain ⟨rfl,rfl⟩:=h3
      exact ⟨.num,rfl,rfl,h1⟩
    · by_cases k3 : k = 3
      · subst k3
        simp [kidsOf] at h2
        have : ks = []:=by cases ks with
          | nil=>rfl
          | cons=>simp at h2; omega
        subst this
        simp [ownB] at h3
        exact ⟨.nm m n,rfl,by simp [okV,nmB,h3.1,h3.2],h1⟩
      · by_cases k2 : k = 2
        · subst k2
          simp [kidsOf] at h2
          match ks,h2,ih,h4 with
          | [a,b],_,ih,h4 =>
            simp [ownB] at h3
            obtain ⟨rfl,rfl⟩:=h3
            simp only [shapes,Bool.and_eq_true] at h4
            obtain ⟨x,rfl,hx1,hx2⟩:=ih a (by simp) _ h4.1
            obtain ⟨y,rfl,hy1,hy2⟩:=ih b (by simp) _ h4.2.1
            refine ⟨.fn x y,rfl,by simp [okV,hx1,hy1],?_⟩
            simp only [dep]
            omega
          | [],h2,_,_=>simp at h2
          | [_],h2,_,_=>simp at h2
          | _ :: _ :: _ :: _,h2,_,_=>simp at h2; omega
        · simp [kidsOf,k1,k2,k3] at h2; try omega
theorem readO_toTy : ∀ (v : VT) (d : Int),okV v = true → d + dep v ≤ 9 → readO (toTy v) d = (some (vT v,vX v),true)
  | .num,d,_,h=>by
    simp [dep] at h
    have : ¬ 8 < d:=by omega
    simp [toTy,readO,this,vT,vX]
  | .nm m n,d,hv,h=>by
    simp [dep] at h
    simp [okV,nmB] at hv
    have : ¬ 8 < d:=by omega
    simp [toTy,readO,this,vT,vX,hv.1,hv.2]
  | .fn a b,d,hv,h=>by
    simp [dep] at h
    simp [okV] at hv
    have ha:=readO_toTy a (d + 1) hv.1 (by omega)
    have hb:=readO_toTy b (d + 1) hv.2 (by omega)
    have:=dep_pos a
    have : ¬ 8 < d:=by omega
    simp [toTy,readO,readOs,this,vT,vX,ha,hb,pairUp,ifA]
theorem readO_of (τ : Ty) : ∀ (d : Int),(readO τ d).2 = true → ∃ v,τ = toTy v ∧ okV v = true ∧ d + dep v ≤ 9:=by
  induction τ using Ty.ind with
  | h k m n ks ih =>
    intro d h
    rw [readO] at h
    split at h
    · cases h
    · rename_i hd
      split at h
      · rename_i k1
        subst k1
        simp at h
        obtain ⟨⟨rfl,rfl⟩,h⟩:=h
        have : ks = []:=by cases ks with
          | nil=>rfl
          | cons=>simp at h
        subst this
        exact ⟨.num,rfl,rfl,by simp [dep]; omega⟩
      · split at h
        · rename_i k1 k2
          subst k2
          split at h
          · rename_i hm
            subst hm
            split at h
            · rename_i hn
              subst hn
              match ks,ih,h with
              | [a,b],ih,h =>
                simp only [readOs,pairUp] at h
                have ha : (readO a (d + 1)).2 = true:=by
                  generalize readO a (d + 1) = x at h
                  generalize readO b (d + 1) = y at h
                  rcases x with ⟨x,_ | _⟩ <;> simp [pairUp] at h ⊢
                have hb : (readO b (d + 1)).2 = true:=by
                  generalize readO a (d + 1) = x at h
                  generalize readO b (d + 1) = y at h
                  rcases x with ⟨x,_ | _⟩ <;> rcases y with ⟨y,_ | _⟩ <;> simp [pairUp] at h ⊢
                obtain ⟨x,rfl,hx1,hx2⟩:=ih a (by simp) _ ha
                obtain ⟨y,rfl,hy1,hy2⟩:=ih b (by simp) _ hb
                refine ⟨.fn x y,rfl,by simp [okV,hx1,hy1],?_⟩
                simp only [dep]
                omega
              | [],_,h=>simp [readOs,pairUp] at h
              | [_],_,h=>simp [readOs,pairUp] at h
              | _ :: _ :: _ :: _,_,h=>simp [readOs,pairUp] at h
            · cases h
          · cases h
        · split at h
          · rename_i k1 k2 k3
            subst k3
            simp at h
            have : ks = []:=by cases ks with
              | nil=>rfl
              | cons=>simp at h
            subst this
            exact ⟨.nm m n,rfl,by simp [okV,nmB,h.1.1,h.1.2],by simp [dep]; omega⟩
          · cases h
structure VOk (v : VT) : Prop where
  ok : okV v = true
  dep : dep v ≤ 8
  cnt : cnt v ≤ 63
theorem validB_toTy {v : VT} (h : VOk v) : validB (toTy v) = true:=by
  have:=h.dep
  rw [validB,shape_toTy v 8 h.ok (by omega),count_toTy,decide_eq_true h.cnt]
  rfl
theorem validB_of {τ : Ty} (h : validB τ = true) : ∃ v,τ = toTy v ∧ VOk v:=by
  simp only [validB,Bool.and_eq_true,decide_eq_true_eq] at h
  obtain ⟨v,rfl,h1,h2⟩:=shape_of τ 8 h.1
  rw [count_toTy] at h
  exact ⟨v,rfl,h1,by omega,h.2⟩
theorem valid_cases (τ : Ty) : (∃ v,τ = toTy v ∧ VOk v) ∨ validB τ = false:=by
  cases h : validB τ with
  | true=>exact .inl (validB_of h)
  | false=>exact .inr rfl
theorem frzC_vX (v : VT) (A : List Box) : frzC (vX v) A = some (vX v,A):=by cases v <;> rfl
def pickF (x y z : FuncId) : VT → FuncId
  | .num=>x
  | .fn _ _=>y
  | .nm _ _=>z
structure Met (name : String) (gs : VT → FuncId) : Prop where
  find : ∀ v,methA Tryz.prog (vT v) name = some (gs v)
  call : ∀ v,callable Tryz.prog (gs v) = true
theorem met3 {name : String} {x y z : FuncId} (h1 : methA Tryz.prog 369 name = some x) (h2 : methA Tryz.prog 422 name = some y) (h3 : methA Tryz.prog 180 name = some z)
    (c1 : callable Tryz.prog x = true) (c2 : callable Tryz.prog y = true) (c3 : callable Tryz.prog z = true) : Met name (pickF x y z) :=
  ⟨fun v=>match v with
    | .num=>h1
    | .fn _ _=>h2
    | .nm _ _=>h3,
   fun v=>match v with
    | .num=>c1
    | .fn _ _=>c2
    | .nm _ _=>c3⟩
theorem meth_invK {own ow : FuncId → Bool} {name : String} {gs : VT → FuncId} {v : VT} {args args' : List AV} {A A1 : List Box} {R : AV → List Box → Prop} {N : Nat} {ops : Array Oper} {Q : Env → List Box → Prop} {rest : List Oper} {d : Option Tmp} {e : Env}
    (hm : Met name gs) (h : ACalls Tryz.prog (gs v) (vX v :: args') A1 R) (hf : frzs args A = some (args',A1)) (ho : ∀ g,own g = false)
    (hk : ∀ r A',R r A' → wpO Tryz.prog ow N ops Q rest (putA N d r e) A') : InvK Tryz.prog own name (.iface (vT v) (vX v)) args A (ContO Tryz.prog ow N ops Q rest d e):=by
  have h1:=hm.find v
  have h2:=hm.call v
  generalize gs v = g at h h1 h2
  refine ⟨g,h1,h2,callK_intro (args':=vX v :: args') (A1:=A1) ?_ h hk (ho g)⟩
  simp only [frzs,frzC_vX,hf]
theorem meth_invD {own : FuncId → Bool} {name : String} {gs : VT → FuncId} {v : VT} {args args' : List AV} {A : List Box} {x : AV} {N : Nat} {ops : Array Oper} {Q : Env → Prop} {rest : List Oper} {d : Option Tmp} {e : Env}
    (hm : Met name gs) (h : ACalls Tryz.prog (gs v) (vX v :: args') A (fun v' A'=>v' = x ∧ A' = A)) (hf : frzs args A = some (args',A)) (ho : ∀ g,own g = false)
    (hk : wpD Tryz.prog own N ops A Q rest (putA N d x e)) : InvD Tryz.prog own name (.iface (vT v) (vX v)) args A N ops Q rest d e:=by
  have h1:=hm.find v
  have h2:=hm.call v
  generalize gs v = g at h h1 h2
  refine ⟨g,h1,h2,callD_intro (args':=vX v :: args') ?_ h hk (ho g)⟩
  simp only [frzs,frzC_vX,hf]
end Go.Proofs.YtnjdbgiincliaaaGreat
/- The methods that measure a valid type, and the functions that read one. -/
set_option linter.unusedVariables false
set_option linter.unusedSimpArgs false
namespace Go.Proofs.YtnjdbgiincliaaaGreat
open Go.Abs
def DepM (v : VT) : Prop:=∀ A,ACalls Tryz.prog ((pickF 428 435 357) v) [vX v] A (fun r A'=>r = .int .i64 (dep v) ∧ A' = A)
def CntM (v : VT) : Prop:=∀ A,ACalls Tryz.prog ((pickF 427 434 356) v) [vX v] A (fun r A'=>r = .int .i64 (cnt v) ∧ A' = A)
set_option maxRecDepth 100000 in
theorem num_depth : DepM .num:=fun A=>by
  show ACalls Tryz.prog 428 _ _ _
  rw [vX]
  refine acalls_enter (cf:=cf 3 [0,2]) foll Tryz.func428 Tryz.ntmps428 (by simp [cf]) ?_
  simp only [Tryz.f428,EnterK_some,zW,zX,zD,builtinA,isLeaf,const1,ustrA,simprocAttr,ti369,cf,Tryz.results428]
  simp [dep]
set_option maxRecDepth 100000 in
theorem name_depth (m n : List UInt8) : DepM (.nm m n):=fun A=>by
  show ACalls Tryz.prog 357 _ _ _
  rw [vX]
  refine acalls_enter (cf:=cf 3 [0,2]) foll Tryz.func357 Tryz.ntmps357 (by simp [cf]) ?_
  simp only [Tryz.f357,EnterK_some,zW,zX,zD,builtinA,isLeaf,const1,ustrA,simprocAttr,ti180,cf,Tryz.results357]
  simp [dep]
set_option maxRecDepth 100000 in
theorem num_count : CntM .num:=fun A=>by
  show ACalls Tryz.prog 427 _ _ _
  rw [vX]
  refine acalls_enter (cf:=cf 3 [0,2]) foll Tryz.func427 Tryz.ntmps427 (by simp [cf]) ?_
  simp only [Tryz.f427,EnterK_some,zW,zX,zD,builtinA,isLeaf,const1,ustrA,simprocAttr,ti369,cf,Tryz.results427]
  simp [cnt]
set_option maxRecDepth 100000 in
theorem name_count (m n : List UInt8) : CntM (.nm m n):=fun A=>by
  show ACalls Tryz.prog 356 _ _ _
  rw [vX]
  refine acalls_enter (cf:=cf 3 [0,2]) foll Tryz.func356 Tryz.ntmps356 (by simp [cf]) ?_
  simp only [Tryz.f356,EnterK_some,zW,zX,zD,builtinA,isLeaf,const1,ustrA,simprocAttr,ti180,cf,Tryz.results356]
  simp [cnt]
set_option maxRecDepth 100000 in
theorem fun_depth (a b : VT) (ha : DepM a) (hb : DepM b) (hd : dep a < 1000 ∧ dep b < 1000) : DepM (.fn a b):=fun A=>by
  show ACalls Tryz.prog 435 _ _ _
  rw [vX]
  refine acalls_enter (cf:=cf 11 [0,1,2]) foll Tryz.func435 Tryz.ntmps435 (by simp [cf]) ?_
  simp only [Tryz.f435,EnterK_some,zW,zX,zD,builtinA,isLeaf,const1,ustrA,simprocAttr,ti3,ti175,ti422,cf,Tryz.results435]
  refine .inl ⟨by kernel_rfl,by kernel_rfl,?_⟩
  refine wpD_invoke _ _ _ _ _ _ _ _ _ _ _ _ _ _ _ _ ?_
  simp only [zW,zX,zD,builtinA,isLeaf,const1,ustrA,simprocAttr,ti3,ti175,ti422,cf,Tryz.results435]
  refine meth_invD (met3 (by kernel_rfl) (by kernel_rfl) (by kernel_rfl) (by kernel_rfl) (by kernel_rfl) (by kernel_rfl)) (ha _) rfl (fun _=>rfl) ?_
  simp only [zW,zX,zD,builtinA,isLeaf,const1,ustrA,simprocAttr,ti3,ti175,ti422,cf,Tryz.results435]
  refine wpD_invoke _ _ _ _ _ _ _ _ _ _ _ _ _ _ _ _ ?_
  simp only [zW,zX,zD,builtinA,isLeaf,const1,ustrA,simprocAttr,ti3,ti175,ti422,cf,Tryz.results435]
  refine meth_invD (met3 (by kernel_rfl) (by kernel_rfl) (by kernel_rfl) (by kernel_rfl) (by kernel_rfl) (by kernel_rfl)) (hb _) rfl (fun _=>rfl) ?_
  simp only [zW,zX,zD,builtinA,isLeaf,const1,ustrA,simprocAttr,ti3,ti175,ti422,cf,Tryz.results435]
  rw [wrap64 (by split <;> omega) (by split <;> omega),dep]
  congr 1
  split <;> omega
set_option maxRecDepth 100000 in
theorem fun_count (a b : VT) (ha : CntM a) (hb : CntM b) (hd : cnt a < 100000 ∧ cnt b < 100000) : CntM (.fn a b):=fun A=>by
  show ACalls Tryz.prog 434 _ _ _
  rw [vX]
  refine acalls_enter (cf:=cf 11 [0,1,2]) foll Tryz.func434 Tryz.ntmps434 (by simp [cf]) ?_
  simp only [Tryz.f434,EnterK_some,zW,zX,zD,builtinA,isLeaf,const1,ustrA,simprocAttr,ti3,ti175,ti422,cf,Tryz.results434]
  refine .inl ⟨by kernel_rfl,by kernel_rfl,?_⟩
  refine wpD_invoke _ _ _ _ _ _ _ _ _ _ _ _ _ _ _ _ ?_
  simp only [zW,zX,zD,builtinA,isLeaf,const1,ustrA,simprocAttr,ti3,ti175,ti422,cf,Tryz.results434]
  refine meth_invD (met3 (by kernel_rfl) (by kernel_rfl) (by kernel_rfl) (by kernel_rfl) (by kernel_rfl) (by kernel_rfl)) (ha _) rfl (fun _=>rfl) ?_
  simp only [zW,zX,zD,builtinA,isLeaf,const1,ustrA,simprocAttr,ti3,ti175,ti422,cf,Tryz.results434]
  refine wpD_invoke _ _ _ _ _ _ _ _ _ _ _ _ _ _ _ _ ?_
  simp only [zW,zX,zD,builtinA,isLeaf,const1,ustrA,simprocAttr,ti3,ti175,ti422,cf,Tryz.results434]
  refine meth_invD (met3 (by kernel_rfl) (by kernel_rfl) (by kernel_rfl) (by kernel_rfl) (by kernel_rfl) (by kernel_rfl)) (hb _) rfl (fun _=>rfl) ?_
  simp only [zW,zX,zD,builtinA,isLeaf,const1,ustrA,simprocAttr,ti3,ti175,ti422,cf,Tryz.results434]
  have h1 : IntKind.i64.wrap (1 + (cnt a : Int)) = 1 + cnt a:=wrap64 (by omega) (by omega)
  rw [h1,wrap64 (by omega) (by omega),cnt]
  congr 1
theorem depM : ∀ v,dep v ≤ 9 → DepM v
  | .num,_=>num_depth
  | .nm m n,_=>name_depth m n
  | .fn a b,h=>by
    rw [dep] at h
    exact fun_depth a b (depM a (by omega)) (depM b (by omega)) (by omega)
theorem cntM : ∀ v,cnt v < 100000 → CntM v
  | .num,_=>num_count
  | .nm m n,_=>name_count m n
  | .fn a b,h=>by
    rw [cnt] at h
    exact fun_count a b (cntM a (by omega)) (cntM b (by omega)) (by omega)
set_option maxRecDepth 100000 in
theorem impl_withinLimits (v : VT) (hd : dep v ≤ 9) (A : List Box) : ACalls Tryz.prog 199 [.iface (vT v) (vX v)] A (fun r A'=>r = .bool (decide (dep v ≤ 8) && decide (cnt v ≤ 63)) ∧ A' = A):=by
  have hc:=cnt_lt hd
  refine acalls_enter (cf:=cf 11 [0,2]) foll Tryz.func199 Tryz.ntmps199 (by simp [cf]) ?_
  simp only [Tryz.f199,EnterK_some,zW,zX,zD,builtinA,isLeaf,const1,ustrA,simprocAttr,ti3,cf,Tryz.results199]
  refine wpO_invoke _ _ _ _ _ _ _ _ _ _ _ _ _ _ _ _ ?_
  simp only [zW,zX,zD,builtinA,isLeaf,const1,ustrA,simprocAttr,ti3,cf,Tryz.results199]
  refine meth_invK (met3 (by kernel_rfl) (by kernel_rfl) (by kernel_rfl) (by kernel_rfl) (by kernel_rfl) (by kernel_rfl)) (depM v hd _) rfl (fun _=>rfl) ?_
  rintro v A' ⟨rfl,rfl⟩
  simp only [zW,zX,zD,builtinA,isLeaf,const1,ustrA,simprocAttr,ti3,cf,Tryz.results199]
  by_cases h8 : dep v ≤ 8
  · have e8 : decide ((dep v : Int) ≤ 8) = true:=decide_eq_true (by omega)
    rw [decide_eq_true h8]
    simp only [zW,zX,zD,builtinA,isLeaf,const1,ustrA,simprocAttr,ti3,cf,Tryz.results199,e8]
    refine wpO_invoke _ _ _ _ _ _ _ _ _ _ _ _ _ _ _ _ ?_
    simp only [zW,zX,zD,builtinA,isLeaf,const1,ustrA,simprocAttr,ti3,cf,Tryz.results199]
    refine meth_invK (met3 (by kernel_rfl) (by kernel_rfl) (by kernel_rfl) (by kernel_rfl) (by kernel_rfl) (by kernel_rfl)) (cntM v (by omega) _) rfl (fun _=>rfl) ?_
    rintro v A' ⟨rfl,rfl⟩
    simp only [zW,zX,zD,builtinA,isLeaf,const1,ustrA,simprocAttr,ti3,cf,Tryz.results199]
    simp
    omega
  · have e8 : decide ((dep v : Int) ≤ 8) = false:=decide_eq_false (by omega)
    rw [decide_eq_false h8]
    simp only [zW,zX,zD,builtinA,isLeaf,const1,ustrA,simprocAttr,ti3,cf,Tryz.results199,e8]
set_option maxRecDepth 100000 in
theorem impl_readType (τ : Ty) (A : List Box) : ACalls Tryz.prog 111 [.agg (enc τ)] A (fun r A'=>((∃ v,τ = toTy v ∧ VOk v ∧ r = .tuple [.iface (vT v) (vX v),.bool true]) ∨ (validB τ = false ∧ r = .tuple [.nili,.bool false])) ∧ A' = A):=by
  refine acalls_enter (cf:=cf 19 [0,1,2,3,4,5,17]) foll Tryz.func111 Tryz.ntmps111 (by simp [cf]) ?_
  simp only [Tryz.f111,EnterK_some,zW,zX,zD,builtinA,isLeaf,const1,ustrA,simprocAttr,ti36,ca198,ca199,cf,Tryz.results111]
  simp only [enc_take]
  refine ⟨by rw [enc_length]; omega,?_⟩
  refine callK_intro (by simp only [zW,zX,zD,builtinA,isLeaf,const1,ustrA,simprocAttr,frzL_enc,Option.map_some]; rfl) (impl_readNode τ _ _ (by omega) (by omega)) ?_ rfl; rintro v A' ⟨rfl,rfl⟩
  cases hr : (readO τ 1).2 with
  | false =>
    have hv : validB τ = false:=by
      rcases valid_cases τ with ⟨v,rfl,hv⟩ | h
      · have:=hv.dep
        rw [readO_toTy v 1 hv.ok (by omega)] at hr
        cases hr
      · exact h
    simp only [zW,zX,zD,builtinA,isLeaf,const1,ustrA,simprocAttr,ti36,ca198,ca199,cf,Tryz.results111]
    exact .inr hv
  | true =>
    obtain ⟨v,rfl,hv,hd⟩:=readO_of τ 1 hr
    have hro:=readO_toTy v 1 hv hd
    have hcl:=cnt_lt (v:=v) (k:=9) (by omega)
    rw [hro]
    simp only [ifA]
    simp only [zW,zX,zD,builtinA,isLeaf,const1,ustrA,simprocAttr,ti36,ca198,ca199,cf,Tryz.results111]
    refine callK_intro (by simp only [zW,zX,zD,builtinA,isLeaf,const1,ustrA,simprocAttr]; rfl) (impl_withinLimits v (by omega) _) ?_ rfl; rintro v A' ⟨rfl,rfl⟩
    by_cases hc : cnt v ≤ 63
    · have h8 : dep v ≤ 8:=by omega
      rw [decide_eq_true hc,decide_eq_true h8]
      simp only [zW,zX,zD,builtinA,isLeaf,const1,ustrA,simprocAttr,ti36,ca198,ca199,cf,Tryz.results111]
      exact .inl ⟨v,rfl,⟨hv,h8,hc⟩,rfl⟩
    · have hn : validB (toTy v) = false:=by
        rw [validB,count_toTy,decide_eq_false hc,Bool.and_false]
      rw [decide_eq_false hc]
      simp only [zW,zX,zD,builtinA,isLeaf,const1,ustrA,simprocAttr,ti36,ca198,ca199,cf,Tryz.results111]
      exact .inr hn
end Go.Proofs.YtnjdbgiincliaaaGreat
/- The document's TypeSame, by itself. -/
set_option linter.unusedVariables false
set_option linter.unusedSimpArgs false
namespace Go.Proofs.YtnjdbgiincliaaaGreat
open Go.Abs
theorem gdS {α : Type} (l : List α) (i : Nat) (d : α) (h : i < l.length) : l.getD i d = l[i]:=by simp [List.getD,h]
theorem take_eq_all {l l' : List Ty} (hl : l.length = l'.length) (h : ∀ i,i < l.length → l.getD i ty0 = l'.getD i ty0) : l = l':=by
  apply List.ext_getElem hl
  intro i hi hi'
  have:=h i hi
  rw [gdS _ _ _ hi,gdS _ _ _ hi'] at this
  exact this
set_option maxRecDepth 100000 in
set_option maxHeartbeats 2000000 in
theorem spec_TypeSame (σ : Ty) (hσ : σ.Ok) : ∀ (τ : Ty) (A : List Box),ACalls Tryz.prog 249 [.agg (enc σ),.agg (enc τ)] A (fun r A'=>r = .bool (decide (σ = τ)) ∧ A' = A):=by
  induction σ using Ty.ind with
  | h k m n ks ih =>
    rintro ⟨k',m',n',ks'⟩ A
    obtain ⟨hm,hn,hks,hok⟩:=hσ
    rw [enc,enc]
    by_cases h1 : k = k'
    · by_cases h2 : m = m'
      · by_cases h3 : n = n'
        · by_cases h4 : ks.length = ks'.length
          · have g1 : decide (k = k') = true:=decide_eq_true h1
            have g2 : decide (m = m') = true:=decide_eq_true h2
            have g3 : decide (n = n') = true:=decide_eq_true h3
            have g4 : decide (((ks.length : Nat) : Int) = (ks'.length : Nat)) = true:=decide_eq_true (by omega)
            refine acalls_enter (cf:=cf 53 [0,1,2,3,4,5,33,38,52]) foll Tryz.func249 Tryz.ntmps249 (by simp [cf]) ?_
            simp only [Tryz.f249,EnterK_some,zW,zX,zD,builtinA,isLeaf,const1,ustrA,simprocAttr,ti3,ti9,ti34,ti36,ca249,cf,Tryz.results249]
            simp only [zW,zX,zD,builtinA,isLeaf,const1,ustrA,simprocAttr,ti3,ti9,ti34,ti36,ca249,cf,Tryz.results249,g1,g2,g3,g4,encs_length,Bool.not_true]
            refine aloop_intro [2,3,5] (fun e A'=>∃ i,i ≤ ks.length ∧ e = [(2,.ptr A.length 0),(3,.ptr (A.length + 1) 0),(5,.int .i64 i)] ∧ A' = A ++ [.cells [.int .i64 k,.str m,.str n,.slice (encs ks)],.cells [.int .i64 k',.str m',.str n',.slice (encs ks')]] ∧ ∀ j,j < i → ks.getD j ty0 = ks'.getD j ty0) (fun e _=>ks.length - (intOf (Abs.look 5 e)).toNat) ?_ ?_
            · simp only [zW,zX,zD,builtinA,isLeaf,const1,ustrA,simprocAttr,ti3,ti9,ti34,ti36,ca249,cf,Tryz.results249]
              exact ⟨0,by omega,rfl,by simp⟩
            · rintro e A' ⟨i,hi,rfl,rfl,heq⟩
              have hl' : (encs ks').length = ks.length:=(encs_length _).trans h4.symm
              by_cases hlt : i < ks.length
              · have hlt1 : decide (((i : Nat) : Int) < (ks.length : Nat)) = true:=decide_eq_true (by omega)
                have he:=encs_getD hlt
                have he':=encs_getD (show i < ks'.length by omega)
                have hm:=getD_mem hlt
                have hi1 : IntKind.i64.wrap ((i : Int) + 1) = ((i + 1 : Nat) : Int):=by rw [wrap64 (by omega) (by omega)]; rfl
                simp only [zW,zX,zD,builtinA,isLeaf,const1,ustrA,simprocAttr,ti3,ti9,ti34,ti36,ca249,cf,Tryz.results249,hlt1,he,he',hl',enc_length,enc_take,encs_length]
                refine .inl ⟨by kernel_rfl,by kernel_rfl,⟨by omega,by omega⟩,⟨by omega,by omega⟩,?_⟩
                refine callD_intro (by simp only [zW,zX,zD,builtinA,isLeaf,const1,ustrA,simprocAttr,frzL_enc,Option.map_some] <;> rfl) (ih _ hm (hok _ hm) (ks'.getD i ty0) _) ?_ rfl
                by_cases hq : ks.getD i ty0 = ks'.getD i ty0
                · simp only [zW,zX,zD,builtinA,isLeaf,const1,ustrA,simprocAttr,ti3,ti9,ti34,ti36,ca249,cf,Tryz.results249,decide_eq_true hq,Bool.not_true,hi1,LoopK_eq]
                  refine ⟨⟨i + 1,by omega,rfl,fun j hj=>?_⟩,?_⟩
                  · rcases Nat.lt_or_ge j i with h | h
                    · exact heq j h
                    · obtain rfl : j = i:=by omega
                      exact hq
                  · simp only [intOf]
                    omega
                · have hd : decide (Ty.mk k m n ks = Ty.mk k' m' n' ks') = false:=decide_eq_false (fun e=>by injection e with _ _ _ e; exact hq (by rw [e]))
                  rw [hd]
                  simp only [zW,zX,zD,builtinA,isLeaf,const1,ustrA,simprocAttr,ti3,ti9,ti34,ti36,ca249,cf,Tryz.results249,decide_eq_false hq,Bool.not_false]
              · have hlt1 : decide (((i : Nat) : Int) < (ks.length : Nat)) = false:=decide_eq_false (by omega)
                have : ks = ks':=take_eq_all h4 fun j hj=>heq j (by omega)
                have hd : decide (Ty.mk k m n ks = Ty.mk k' m' n' ks') = true:=decide_eq_true (by rw [h1,h2,h3,this])
                simp only [zW,zX,zD,builtinA,isLeaf,const1,ustrA,simprocAttr,ti3,ti9,ti34,ti36,ca249,cf,Tryz.results249,hlt1,hl',encs_length]
                rw [hd]
          · have hd : decide (Ty.mk k m n ks = Ty.mk k' m' n' ks') = false:=decide_eq_false (fun e=>by injection e with _ _ _ e; exact h4 (congrArg _ e))
            rw [hd]
            refine acalls_enter (cf:=cf 53 [0,1,2,3,4,5,33,38,52]) foll Tryz.func249 Tryz.ntmps249 (by simp [cf]) ?_
            simp only [Tryz.f249,EnterK_some,zW,zX,zD,builtinA,isLeaf,const1,ustrA,simprocAttr,ti3,ti9,ti34,ti36,ca249,cf,Tryz.results249]
            simp only [zW,zX,zD,builtinA,isLeaf,const1,ustrA,simprocAttr,ti3,ti9,ti34,ti36,ca249,cf,Tryz.results249,decide_eq_true h1,decide_eq_true h2,decide_eq_true h3,(decide_eq_false (by omega) : decide (((ks.length : Nat) : Int) = (ks'.length : Nat)) = false),encs_length,Bool.not_true,Bool.not_false]
        · have hd : decide (Ty.mk k m n ks = Ty.mk k' m' n' ks') = false:=decide_eq_false (fun e=>by injection e with _ _ e _; exact h3 e)
          rw [hd]
          refine acalls_enter (cf:=cf 53 [0,1,2,3,4,5,33,38,52]) foll Tryz.func249 Tryz.ntmps249 (by simp [cf]) ?_
          simp only [Tryz.f249,EnterK_some,zW,zX,zD,builtinA,isLeaf,const1,ustrA,simprocAttr,ti3,ti9,ti34,ti36,ca249,cf,Tryz.results249]
          simp only [zW,zX,zD,builtinA,isLeaf,const1,ustrA,simprocAttr,ti3,ti9,ti34,ti36,ca249,cf,Tryz.results249,decide_eq_true h1,decide_eq_true h2,decide_eq_false h3,Bool.not_true,Bool.not_false]
      · have hd : decide (Ty.mk k m n ks = Ty.mk k' m' n' ks') = false:=decide_eq_false (fun e=>by injection e with _ e _ _; exact h2 e)
        rw [hd]
        refine acalls_enter (cf:=cf 53 [0,1,2,3,4,5,33,38,52]) foll Tryz.func249 Tryz.ntmps249 (by simp [cf]) ?_
        simp only [Tryz.f249,EnterK_some,zW,zX,zD,builtinA,isLeaf,const1,ustrA,simprocAttr,ti3,ti9,ti34,ti36,ca249,cf,Tryz.results249]
        simp only [zW,zX,zD,builtinA,isLeaf,const1,ustrA,simprocAttr,ti3,ti9,ti34,ti36,ca249,cf,Tryz.results249,decide_eq_true h1,decide_eq_false h2,Bool.not_true,Bool.not_false]
    · have hd : decide (Ty.mk k m n ks = Ty.mk k' m' n' ks') = false:=decide_eq_false (fun e=>by injection e with e _ _ _; exact h1 e)
      rw [hd]
      refine acalls_enter (cf:=cf 53 [0,1,2,3,4,5,33,38,52]) foll Tryz.func249 Tryz.ntmps249 (by simp [cf]) ?_
      simp only [Tryz.f249,EnterK_some,zW,zX,zD,builtinA,isLeaf,const1,ustrA,simprocAttr,ti3,ti9,ti34,ti36,ca249,cf,Tryz.results249]
      simp only [zW,zX,zD,builtinA,isLeaf,const1,ustrA,simprocAttr,ti3,ti9,ti34,ti36,ca249,cf,Tryz.results249,decide_eq_false h1,Bool.not_true,Bool.not_false]
end Go.Proofs.YtnjdbgiincliaaaGreat
/- Comparisons with the zero type. -/
set_option linter.unusedVariables false
set_option linter.unusedSimpArgs false
namespace Go.Proofs.YtnjdbgiincliaaaGreat
open Go.Abs
set_option maxRecDepth 100000 in
theorem spec_l2Zero (τ : Ty) (A : List Box) : ACalls Tryz.prog 247 [.agg (enc τ)] A (fun r A'=>r = .bool (decide (τ = ty0)) ∧ A' = A):=by
  obtain ⟨k,m,n,ks⟩:=τ
  have hr : decide (Ty.mk k m n ks = ty0) = (((decide (k = 0) && decide (m = [])) && decide (n = [])) && decide (ks = [])):=by
    rw [Bool.eq_iff_iff]; simp [ty0,and_assoc]
  have hl : decide (((encs ks).length : Int) = 0) = decide (ks = []):=by
    rw [Bool.eq_iff_iff,encs_length]; simp only [decide_eq_true_eq]
    constructor
    · intro h; exact List.length_eq_zero_iff.1 (by omega)
    · rintro rfl; rfl
  rw [enc,hr]
  refine acalls_enter (cf:=cf 22 [0,1,2]) foll Tryz.func247 Tryz.ntmps247 (by simp [cf]) ?_
  simp only [Tryz.f247,EnterK_some,zW,zX,zD,builtinA,isLeaf,const1,ustrA,simprocAttr,ti3,ti9,ti34,ti36,cf,Tryz.results247]
  by_cases h1 : k = 0
  · by_cases h2 : m = []
    · by_cases h3 : n = []
      · simp only [zW,zX,zD,builtinA,isLeaf,const1,ustrA,simprocAttr,ti3,ti9,ti34,ti36,cf,Tryz.results247,decide_eq_true h1,decide_eq_true h2,decide_eq_true h3,hl]
      · simp only [zW,zX,zD,builtinA,isLeaf,const1,ustrA,simprocAttr,ti3,ti9,ti34,ti36,cf,Tryz.results247,decide_eq_true h1,decide_eq_true h2,decide_eq_false h3,hl]
    · simp only [zW,zX,zD,builtinA,isLeaf,const1,ustrA,simprocAttr,ti3,ti9,ti34,ti36,cf,Tryz.results247,decide_eq_true h1,decide_eq_false h2,hl]
  · simp only [zW,zX,zD,builtinA,isLeaf,const1,ustrA,simprocAttr,ti3,ti9,ti34,ti36,cf,Tryz.results247,decide_eq_false h1,hl]
end Go.Proofs.YtnjdbgiincliaaaGreat
