/- Types, TypesImpl, TypesVal, TypesMeth, LawTy, Exprs. -/
import Derived.Test.YtijlnkfiadajhaaGreatK00
import Derived.Test.YtijlnkfiadajhaaGreatAbsW3
/- Types as trees, and what the functions on them answer. -/
set_option linter.unusedVariables false
set_option linter.unusedSimpArgs false
namespace Go.Proofs.YtijlnkfiadajhaaGreat
open Go.Abs
inductive Ty where
  | mk (kind : Int) (mod name : List UInt8) (kids : List Ty)
noncomputable instance instTyDec : DecidableEq Ty:=fun a b=>Classical.propDecidable (a = b)
def Ty.kind : Ty → Int | .mk k _ _ _=>k
def Ty.mod : Ty → List UInt8 | .mk _ m _ _=>m
def Ty.name : Ty → List UInt8 | .mk _ _ n _=>n
def Ty.kids : Ty → List Ty | .mk _ _ _ ks=>ks
theorem Ty.ind {M : Ty → Prop} (h : ∀ k m n ks,(∀ t ∈ ks,M t) → M (.mk k m n ks)) : ∀ t,M t
  | .mk k m n ks=>h k m n ks fun t ht=>Ty.ind h t
termination_by t=>SizeOf.sizeOf t
decreasing_by
  have:=List.sizeOf_lt_of_mem ht
  simp only [Ty.mk.sizeOf_spec]
  omega
mutual
def enc : Ty → List AV
  | .mk k m n ks=>[.int .i64 k,.str m,.str n,.slice (encs ks)]
def encs : List Ty → List (List AV)
  | []=>[]
  | t :: l=>enc t :: encs l
end
mutual
def sz : Ty → Nat
  | .mk _ m n ks=>m.length + n.length + (ks.length + szs ks)
def szs : List Ty → Nat
  | []=>0
  | t :: l=>sz t + szs l
end
mutual
def count : Ty → Nat
  | .mk _ _ _ ks=>1 + counts ks
def counts : List Ty → Nat
  | []=>0
  | t :: l=>count t + counts l
end
inductive Ty.Ok : Ty → Prop
  | mk {k : Int} {m n : List UInt8} {ks : List Ty} : m.length < 2 ^ 63 → n.length < 2 ^ 63 → ks.length < 2 ^ 63 → (∀ t ∈ ks,Ty.Ok t) → Ty.Ok (.mk k m n ks)
def ty0 : Ty:=.mk 0 [] [] []
theorem encs_map : ∀ l,encs l = l.map enc
  | []=>rfl
  | t :: l=>by rw [encs,encs_map l]; rfl
theorem encs_length (l : List Ty) : (encs l).length = l.length:=by rw [encs_map]; simp
theorem encs_getD {l : List Ty} {i : Nat} (h : i < l.length) : (encs l).getD i [] = enc (l.getD i ty0):=by
  rw [encs_map]; simp [List.getD,h]
theorem enc_length (t : Ty) : (enc t).length = 4:=by cases t; rw [enc]; rfl
theorem enc_take (t : Ty) : List.take 4 (enc t) = enc t:=by cases t; rw [enc]; rfl
theorem enc_leaf (t : Ty) : ∀ v ∈ enc t,isLeaf v = true:=by cases t; rw [enc]; simp [isLeaf]
theorem frzL_enc (t : Ty) (A : List Box) : frzL (enc t) A = some (enc t,A):=by cases t; rw [enc]; rfl
theorem getD_mem {l : List Ty} {i : Nat} (h : i < l.length) : l.getD i ty0 ∈ l:=by simp [List.getD,h]
theorem szs_mem {t : Ty} {l : List Ty} (h : t ∈ l) : sz t ≤ szs l:=by
  induction l with
  | nil=>simp at h
  | cons u l ih =>
    rw [szs]
    rcases List.mem_cons.1 h with rfl | h
    · omega
    · have:=ih h; omega
theorem counts_take {l : List Ty} {i : Nat} (h : i < l.length) : counts (l.take (i + 1)) = counts (l.take i) + count (l.getD i ty0):=by
  induction l generalizing i with
  | nil=>simp at h
  | cons t l ih =>
    cases i with
    | zero=>simp [counts,List.getD]
    | succ i =>
      have:=ih (i:=i) (by simpa using h)
      simp only [List.take_succ_cons,counts,List.getD_cons_succ] at this ⊢
      omega
theorem wrap64 {n : Int} (h : -(2 ^ 63) ≤ n) (h' : n < 2 ^ 63) : IntKind.i64.wrap n = n:=by
  simp [IntKind.wrap,IntKind.signed,IntKind.bits]
  omega
def left (l : Int) (n : Nat) : Int:=if (n : Int) ≤ l then l - n else -1
def intOf : AV → Int
  | .int _ n=>n
  | _=>0
def ownB (k : Int) (m n : List UInt8) : Bool:=if k = 3 then localB n && (decide (m = []) || moduleB m) else decide (n = []) && decide (m = [])
def kidsOf (k : Int) : Int:=if k = 1 then 0 else if k = 3 then 0 else if k = 2 then 2 else -1
mutual
def shape : Ty → Int → Bool
  | .mk k m n ks,d=>decide (1 ≤ d) && (decide (kidsOf k = ks.length) && ownB k m n) && shapes ks (d - 1)
def shapes : List Ty → Int → Bool
  | [],_=>true
  | t :: l,d=>shape t d && shapes l d
end
theorem shapes_take {l : List Ty} {i : Nat} (h : i < l.length) (d : Int) : shapes (l.take (i + 1)) d = (shapes (l.take i) d && shape (l.getD i ty0) d):=by
  induction l generalizing i with
  | nil=>simp at h
  | cons t l ih =>
    cases i with
    | zero=>simp [shapes,List.getD]
    | succ i =>
      have:=ih (i:=i) (by simpa using h)
      simp only [List.take_succ_cons,shapes,List.getD_cons_succ] at this ⊢
      rw [this,Bool.and_assoc]
theorem shapes_false {l : List Ty} {i : Nat} {d : Int} (h : i < l.length) (hs : shape (l.getD i ty0) d = false) : shapes l d = false:=by
  induction l generalizing i with
  | nil=>simp at h
  | cons t l ih =>
    rw [shapes]
    cases i with
    | zero=>have : shape t d = false:=hs; rw [this]; rfl
    | succ i=>rw [ih (i:=i) (by simpa using h) (by simpa using hs)]; simp
theorem counts_le (l : List Ty) : ∀ i,counts (l.take i) ≤ counts l:=by
  induction l with
  | nil=>intro i; simp [counts]
  | cons t l ih =>
    intro i
    cases i with
    | zero=>simp [counts]
    | succ i=>simp only [List.take_succ_cons,counts]; have:=ih i; omega
mutual
theorem count_sz : ∀ t,count t ≤ 1 + sz t
  | .mk k m n ks=>by rw [count,sz]; have:=counts_szs ks; omega
theorem counts_szs : ∀ l,counts l ≤ l.length + szs l
  | []=>by simp [counts]
  | t :: l=>by rw [counts,szs,List.length_cons]; have:=count_sz t; have:=counts_szs l; omega
end
set_option maxRecDepth 100000 in
theorem spec_l1Kids (k : Int) (A : List Box) : ACalls Tryz.prog 280 [.int .i64 k] A (fun v A'=>v = .int .i64 (kidsOf k) ∧ A' = A):=by
  refine acalls_enter (cf:=cf 9 [0,2,3,4,7]) foll Tryz.func280 Tryz.ntmps280 (by simp [cf]) ?_
  simp only [Tryz.f280,EnterK_some,zW,zX,zD,builtinA,isLeaf,const1,ustrA,simprocAttr,ti3,cf,Tryz.results280]
  repeat' first
    | (refine guardT_intro (fun h=>?_) (fun h=>?_) <;> (try simp only [decide_eq_true_eq,decide_eq_false_iff_not,Bool.not_eq_eq_eq_not,Bool.not_true,Bool.not_false] at h) <;> simp only [zW,zX,zD,builtinA,isLeaf,const1,ustrA,simprocAttr,ti3,cf,Tryz.results280,h])
    | (refine guardF_intro (fun h=>?_) (fun h=>?_) <;> (try simp only [decide_eq_true_eq,decide_eq_false_iff_not,Bool.not_eq_eq_eq_not,Bool.not_true,Bool.not_false] at h) <;> simp only [zW,zX,zD,builtinA,isLeaf,const1,ustrA,simprocAttr,ti3,cf,Tryz.results280,h])
    | (refine condK_intro (fun h=>?_) (fun h=>?_) <;> (try simp only [decide_eq_true_eq,decide_eq_false_iff_not,Bool.not_eq_eq_eq_not,Bool.not_true,Bool.not_false] at h) <;> simp only [zW,zX,zD,builtinA,isLeaf,const1,ustrA,simprocAttr,ti3,cf,Tryz.results280,h])
    | (refine guardDT_intro (fun h=>?_) (fun h=>?_) <;> (try simp only [decide_eq_true_eq,decide_eq_false_iff_not,Bool.not_eq_eq_eq_not,Bool.not_true,Bool.not_false] at h) <;> simp only [zW,zX,zD,builtinA,isLeaf,const1,ustrA,simprocAttr,ti3,cf,Tryz.results280,h])
    | (refine guardDF_intro (fun h=>?_) (fun h=>?_) <;> (try simp only [decide_eq_true_eq,decide_eq_false_iff_not,Bool.not_eq_eq_eq_not,Bool.not_true,Bool.not_false] at h) <;> simp only [zW,zX,zD,builtinA,isLeaf,const1,ustrA,simprocAttr,ti3,cf,Tryz.results280,h])
    | refine And.intro ?_ ?_
  · subst h; rfl
  · subst h; rfl
  · subst h; rfl
  · rw [kidsOf,if_neg ‹_›,if_neg ‹_›,if_neg ‹_›]
set_option maxRecDepth 100000 in
theorem spec_l1Own (k : Int) (m n : List UInt8) (ks : List (List AV)) (A : List Box) : ACalls Tryz.prog 281 [.agg [.int .i64 k,.str m,.str n,.slice ks]] A (fun v A'=>v = .bool (ownB k m n) ∧ A' = A):=by
  refine acalls_enter (cf:=cf 27 [0,1,2,5]) foll Tryz.func281 Tryz.ntmps281 (by simp [cf]) ?_
  simp only [Tryz.f281,EnterK_some,zW,zX,zD,builtinA,isLeaf,const1,ustrA,simprocAttr,ti3,ti9,ti36,ca63,ca204,cf,Tryz.results281]
  repeat' first
    | (refine guardT_intro (fun h=>?_) (fun h=>?_) <;> (try simp only [decide_eq_true_eq,decide_eq_false_iff_not,Bool.not_eq_eq_eq_not,Bool.not_true,Bool.not_false] at h) <;> simp only [zW,zX,zD,builtinA,isLeaf,const1,ustrA,simprocAttr,ti3,ti9,ti36,ca63,ca204,cf,Tryz.results281,h])
    | (refine guardF_intro (fun h=>?_) (fun h=>?_) <;> (try simp only [decide_eq_true_eq,decide_eq_false_iff_not,Bool.not_eq_eq_eq_not,Bool.not_true,Bool.not_false] at h) <;> simp only [zW,zX,zD,builtinA,isLeaf,const1,ustrA,simprocAttr,ti3,ti9,ti36,ca63,ca204,cf,Tryz.results281,h])
    | (refine condK_intro (fun h=>?_) (fun h=>?_) <;> (try simp only [decide_eq_true_eq,decide_eq_false_iff_not,Bool.not_eq_eq_eq_not,Bool.not_true,Bool.not_false] at h) <;> simp only [zW,zX,zD,builtinA,isLeaf,const1,ustrA,simprocAttr,ti3,ti9,ti36,ca63,ca204,cf,Tryz.results281,h])
    | (refine guardDT_intro (fun h=>?_) (fun h=>?_) <;> (try simp only [decide_eq_true_eq,decide_eq_false_iff_not,Bool.not_eq_eq_eq_not,Bool.not_true,Bool.not_false] at h) <;> simp only [zW,zX,zD,builtinA,isLeaf,const1,ustrA,simprocAttr,ti3,ti9,ti36,ca63,ca204,cf,Tryz.results281,h])
    | (refine guardDF_intro (fun h=>?_) (fun h=>?_) <;> (try simp only [decide_eq_true_eq,decide_eq_false_iff_not,Bool.not_eq_eq_eq_not,Bool.not_true,Bool.not_false] at h) <;> simp only [zW,zX,zD,builtinA,isLeaf,const1,ustrA,simprocAttr,ti3,ti9,ti36,ca63,ca204,cf,Tryz.results281,h])
    | refine And.intro ?_ ?_
  · subst h
    refine callK_intro (by simp only [zW,zX,zD,builtinA,isLeaf,const1,ustrA,simprocAttr]; rfl) (spec_LocalName _ _) ?_ rfl; rintro v A' ⟨rfl,rfl⟩
    rw [ownB,if_pos rfl]
    simp only [zW,zX,zD,builtinA,isLeaf,const1,ustrA,simprocAttr,ti3,ti9,ti36,ca63,ca204,cf,Tryz.results281]
    repeat' first
      | (refine guardT_intro (fun h=>?_) (fun h=>?_) <;> (try simp only [decide_eq_true_eq,decide_eq_false_iff_not,Bool.not_eq_eq_eq_not,Bool.not_true,Bool.not_false] at h) <;> simp only [zW,zX,zD,builtinA,isLeaf,const1,ustrA,simprocAttr,ti3,ti9,ti36,ca63,ca204,cf,Tryz.results281,h])
      | (refine guardF_intro (fun h=>?_) (fun h=>?_) <;> (try simp only [decide_eq_true_eq,decide_eq_false_iff_not,Bool.not_eq_eq_eq_not,Bool.not_true,Bool.not_false] at h) <;> simp only [zW,zX,zD,builtinA,isLeaf,const1,ustrA,simprocAttr,ti3,ti9,ti36,ca63,ca204,cf,Tryz.results281,h])
      | (refine condK_intro (fun h=>?_) (fun h=>?_) <;> (try simp only [decide_eq_true_eq,decide_eq_false_iff_not,Bool.not_eq_eq_eq_not,Bool.not_true,Bool.not_false] at h) <;> simp only [zW,zX,zD,builtinA,isLeaf,const1,ustrA,simprocAttr,ti3,ti9,ti36,ca63,ca204,cf,Tryz.results281,h])
      | (refine guardDT_intro (fun h=>?_) (fun h=>?_) <;> (try simp only [decide_eq_true_eq,decide_eq_false_iff_not,Bool.not_eq_eq_eq_not,Bool.not_true,Bool.not_false] at h) <;> simp only [zW,zX,zD,builtinA,isLeaf,const1,ustrA,simprocAttr,ti3,ti9,ti36,ca63,ca204,cf,Tryz.results281,h])
      | (refine guardDF_intro (fun h=>?_) (fun h=>?_) <;> (try simp only [decide_eq_true_eq,decide_eq_false_iff_not,Bool.not_eq_eq_eq_not,Bool.not_true,Bool.not_false] at h) <;> simp only [zW,zX,zD,builtinA,isLeaf,const1,ustrA,simprocAttr,ti3,ti9,ti36,ca63,ca204,cf,Tryz.results281,h])
      | refine And.intro ?_ ?_
    · refine callK_intro (by simp only [zW,zX,zD,builtinA,isLeaf,const1,ustrA,simprocAttr]; rfl) (spec_ModuleName _ _) ?_ rfl; rintro v A' ⟨rfl,rfl⟩
      simp only [zW,zX,zD,builtinA,isLeaf,const1,ustrA,simprocAttr,ti3,ti9,ti36,ca63,ca204,cf,Tryz.results281]
  · subst h; rw [ownB,if_neg ‹_›]; simp
  · rw [ownB,if_neg ‹_›]; simp [h]
set_option maxRecDepth 100000 in
theorem spec_l1Shape (τ : Ty) (hτ : τ.Ok) : ∀ (d : Int) (A : List Box),-1000 ≤ d → d ≤ 1000 → ACalls Tryz.prog 243 [.agg (enc τ),.int .i64 d] A (fun v A'=>v = .bool (shape τ d) ∧ A' = A):=by
  induction τ using Ty.ind with
  | h k m n ks ih =>
    intro d A h0 h1
    obtain ⟨hm,hn,hks,hok⟩:=hτ
    rw [enc,shape]
    refine acalls_enter (cf:=cf 38 [0,1,2,4,5,21,26,37]) foll Tryz.func243 Tryz.ntmps243 (by simp [cf]) ?_
    simp only [Tryz.f243,EnterK_some,zW,zX,zD,builtinA,isLeaf,const1,ustrA,simprocAttr,ti3,ti34,ti36,ca243,ca280,ca281,cf,Tryz.results243]
    refine .inl ⟨by kernel_rfl,by kernel_rfl,?_⟩
    by_cases hd : d < 1
    · simp only [decide_eq_true hd]
      simp only [zW,zX,zD,builtinA,isLeaf,const1,ustrA,simprocAttr,ti3,ti34,ti36,ca243,ca280,ca281,cf,Tryz.results243]
      rw [decide_eq_false (show ¬ (1 : Int) ≤ d by omega)]
      rfl
    · simp only [decide_eq_false hd]
      simp only [zW,zX,zD,builtinA,isLeaf,const1,ustrA,simprocAttr,ti3,ti34,ti36,ca243,ca280,ca281,cf,Tryz.results243]
      refine callD_intro (by simp only [zW,zX,zD,builtinA,isLeaf,const1,ustrA,simprocAttr,Option.map_some] <;> rfl) (spec_l1Kids k _) ?_ rfl
      rw [decide_eq_true (show (1 : Int) ≤ d by omega)]
      by_cases hk : kidsOf k = ks.length
      · simp only [zW,zX,zD,builtinA,isLeaf,const1,ustrA,simprocAttr,ti3,ti34,ti36,ca243,ca280,ca281,cf,Tryz.results243,encs_length,decide_eq_true hk]
        refine callD_intro (by simp only [zW,zX,zD,builtinA,isLeaf,const1,ustrA,simprocAttr,Option.map_some] <;> rfl) (spec_l1Own k m n _ _) ?_ rfl
        by_cases ho : ownB k m n = true
        · simp only [zW,zX,zD,builtinA,isLeaf,const1,ustrA,simprocAttr,ti3,ti34,ti36,ca243,ca280,ca281,cf,Tryz.results243,ho]
          have hw : IntKind.i64.wrap (d - 1) = d - 1:=wrap64 (by omega) (by omega)
          refine aloop_intro [1,2,5] (fun e A'=>∃ i,i ≤ ks.length ∧ shapes (ks.take i) (d - 1) = true ∧ e = [(1,.int .i64 d),(2,.ptr A.length 0),(5,.int .i64 i)] ∧ A' = A ++ [.cells [.int .i64 k,.str m,.str n,.slice (encs ks)]]) (fun e _=>ks.length - (intOf (Abs.look 5 e)).toNat) ?_ ?_
          · simp only [zW,zX,zD,builtinA,isLeaf,const1,ustrA,simprocAttr,ti3,ti34,ti36,ca243,ca280,ca281,cf,Tryz.results243]
            exact ⟨0,by omega,by simp [shapes],rfl⟩
          · rintro e A' ⟨i,hi,hsh,rfl,rfl⟩
            simp only [zW,zX,zD,builtinA,isLeaf,const1,ustrA,simprocAttr,ti3,ti34,ti36,ca243,ca280,ca281,cf,Tryz.results243,encs_length]
            refine condK_intro (fun h2=>?_) (fun h2=>?_)
            · have hi2 : i < ks.length:=by simpa using h2
              have he:=encs_getD hi2
              have hmm:=getD_mem hi2
              have hi1 : IntKind.i64.wrap ((i : Int) + 1) = ((i + 1 : Nat) : Int):=by rw [wrap64 (by omega) (by omega)]; rfl
              have hst:=shapes_take hi2 (d - 1)
              simp only [zW,zX,zD,builtinA,isLeaf,const1,ustrA,simprocAttr,ti3,ti34,ti36,ca243,ca280,ca281,cf,Tryz.results243,he,enc_length,enc_take,encs_length,hw]
              refine ⟨⟨by omega,by omega⟩,?_⟩
              refine callK_intro (by simp only [zW,zX,zD,builtinA,isLeaf,const1,ustrA,simprocAttr,frzL_enc,Option.map_some]; rfl) (ih _ hmm (hok _ hmm) _ _ (by omega) (by omega)) ?_ rfl; rintro v A' ⟨rfl,rfl⟩
              cases hs : shape (ks.getD i ty0) (d - 1) with
              | true =>
                rw [hsh,hs] at hst
                simp only [zW,zX,zD,builtinA,isLeaf,const1,ustrA,simprocAttr,ti3,ti34,ti36,ca243,ca280,ca281,cf,Tryz.results243,hi1,LoopK_eq]
                refine ⟨⟨i + 1,by omega,hst,rfl⟩,?_⟩
                simp only [intOf]
                omega
              | false =>
                simp only [zW,zX,zD,builtinA,isLeaf,const1,ustrA,simprocAttr,ti3,ti34,ti36,ca243,ca280,ca281,cf,Tryz.results243]
                rw [shapes_false hi2 hs]
            · simp only [zW,zX,zD,builtinA,isLeaf,const1,ustrA,simprocAttr,ti3,ti34,ti36,ca243,ca280,ca281,cf,Tryz.results243]
              have : i = ks.length:=by simp at h2; omega
              subst this
              rw [List.take_length] at hsh
              rw [hsh]
        · simp only [zW,zX,zD,builtinA,isLeaf,const1,ustrA,simprocAttr,ti3,ti34,ti36,ca243,ca280,ca281,cf,Tryz.results243,ho]
      · simp only [zW,zX,zD,builtinA,isLeaf,const1,ustrA,simprocAttr,ti3,ti34,ti36,ca243,ca280,ca281,cf,Tryz.results243,encs_length,decide_eq_false hk]
set_option maxRecDepth 100000 in
theorem spec_l1Count (τ : Ty) (hτ : τ.Ok) (hc : sz τ ≤ 1048576) : ∀ (A : List Box),ACalls Tryz.prog 244 [.agg (enc τ)] A (fun v A'=>v = .int .i64 (count τ) ∧ A' = A):=by
  induction τ using Ty.ind with
  | h k m n ks ih =>
    intro A
    obtain ⟨hm,hn,hks,hok⟩:=hτ
    have hcs:=count_sz (.mk k m n ks)
    rw [enc]
    refine acalls_enter (cf:=cf 21 [0,1,2,3,4,9]) foll Tryz.func244 Tryz.ntmps244 (by simp [cf]) ?_
    simp only [Tryz.f244,EnterK_some,zW,zX,zD,builtinA,isLeaf,const1,ustrA,simprocAttr,ti3,ti34,ti36,ca244,cf,Tryz.results244]
    refine aloop_intro [1,3,4] (fun e A'=>∃ i,i ≤ ks.length ∧ e = [(1,.ptr A.length 0),(3,.int .i64 (1 + counts (ks.take i) : Nat)),(4,.int .i64 i)] ∧ A' = A ++ [.cells [.int .i64 k,.str m,.str n,.slice (encs ks)]]) (fun e _=>ks.length - (intOf (Abs.look 4 e)).toNat) ?_ ?_
    · simp only [zW,zX,zD,builtinA,isLeaf,const1,ustrA,simprocAttr,ti3,ti34,ti36,ca244,cf,Tryz.results244]
      exact ⟨0,by omega,by simp [counts]⟩
    · rintro e A' ⟨i,hi,rfl,rfl⟩
      simp only [zW,zX,zD,builtinA,isLeaf,const1,ustrA,simprocAttr,ti3,ti34,ti36,ca244,cf,Tryz.results244,encs_length]
      refine condK_intro (fun h2=>?_) (fun h2=>?_)
      · have hi2 : i < ks.length:=by simpa using h2
        have he:=encs_getD hi2
        have hmm:=getD_mem hi2
        have hi1 : IntKind.i64.wrap ((i : Int) + 1) = ((i + 1 : Nat) : Int):=by rw [wrap64 (by omega) (by omega)]; rfl
        have hct:=counts_take hi2
        have hcl:=counts_le ks (i + 1)
        have hc1 : count (.mk k m n ks) = 1 + counts ks:=by rw [count]
        have hw : IntKind.i64.wrap (((1 + counts (ks.take i) : Nat) : Int) + (count (ks.getD i ty0) : Int)) = ((1 + counts (ks.take (i + 1)) : Nat) : Int):=by
          rw [wrap64 (by omega) (by omega)]; omega
        have hsz : sz (ks.getD i ty0) ≤ 1048576:=by have:=szs_mem hmm; rw [sz] at hc; omega
        simp only [zW,zX,zD,builtinA,isLeaf,const1,ustrA,simprocAttr,ti3,ti34,ti36,ca244,cf,Tryz.results244,he,enc_length,enc_take,encs_length]
        refine ⟨⟨by omega,by omega⟩,?_⟩
        refine callK_intro (by simp only [zW,zX,zD,builtinA,isLeaf,const1,ustrA,simprocAttr,frzL_enc,Option.map_some]; rfl) (ih _ hmm (hok _ hmm) hsz _) ?_ rfl; rintro v A' ⟨rfl,rfl⟩
        simp only [zW,zX,zD,builtinA,isLeaf,const1,ustrA,simprocAttr,ti3,ti34,ti36,ca244,cf,Tryz.results244,hi1,hw,LoopK_eq]
        refine ⟨⟨i + 1,by omega,rfl⟩,?_⟩
        simp only [intOf]
        omega
      · simp only [zW,zX,zD,builtinA,isLeaf,const1,ustrA,simprocAttr,ti3,ti34,ti36,ca244,cf,Tryz.results244]
        have : i = ks.length:=by simp at h2; omega
        subst this
        rw [List.take_length,count]
def validB (τ : Ty) : Bool:=shape τ 8 && decide (count τ ≤ 63)
set_option maxRecDepth 100000 in
theorem spec_TypeValid (τ : Ty) (hτ : τ.Ok) (hc : sz τ ≤ 1048576) (A : List Box) : ACalls Tryz.prog 200 [.agg (enc τ)] A (fun v A'=>v = .bool (validB τ) ∧ A' = A):=by
  refine acalls_enter (cf:=cf 10 [0,1,2]) foll Tryz.func200 Tryz.ntmps200 (by simp [cf]) ?_
  simp only [Tryz.f200,EnterK_some,zW,zX,zD,builtinA,isLeaf,const1,ustrA,simprocAttr,ti3,ti36,ca243,ca244,cf,Tryz.results200]
  simp only [enc_take]
  refine ⟨by rw [enc_length]; omega,?_⟩
  refine callK_intro (by simp only [zW,zX,zD,builtinA,isLeaf,const1,ustrA,simprocAttr,frzL_enc,Option.map_some]; rfl) (spec_l1Shape τ hτ _ _ (by omega) (by omega)) ?_ rfl; rintro v A' ⟨rfl,rfl⟩
  rw [validB]
  cases hs : shape τ 8 with
  | true =>
    simp only [zW,zX,zD,builtinA,isLeaf,const1,ustrA,simprocAttr,ti3,ti36,ca243,ca244,cf,Tryz.results200,enc_take]
    refine ⟨by rw [enc_length]; omega,?_⟩
    refine callK_intro (by simp only [zW,zX,zD,builtinA,isLeaf,const1,ustrA,simprocAttr,frzL_enc,Option.map_some]; rfl) (spec_l1Count τ hτ hc _) ?_ rfl; rintro v A' ⟨rfl,rfl⟩
    simp only [zW,zX,zD,builtinA,isLeaf,const1,ustrA,simprocAttr,ti3,ti36,ca243,ca244,cf,Tryz.results200]
    simp
    omega
  | false =>
    simp only [zW,zX,zD,builtinA,isLeaf,const1,ustrA,simprocAttr,ti3,ti36,ca243,ca244,cf,Tryz.results200]
end Go.Proofs.YtijlnkfiadajhaaGreat
/- Types as trees: what the program's own functions read of them. -/
set_option linter.unusedVariables false
set_option linter.unusedSimpArgs false
namespace Go.Proofs.YtijlnkfiadajhaaGreat
open Go.Abs
def ifA : Option (TypeId × AV) → AV
  | none=>.nili
  | some (t,x)=>.iface t x
def pairUp : List (Option (TypeId × AV) × Bool) → Option (TypeId × AV) × Bool
  | [(x,true),(y,ok)]=>(some (490,.agg [ifA x,ifA y]),ok)
  | _=>(none,false)
mutual
def readO : Ty → Int → Option (TypeId × AV) × Bool
  | .mk k m n ks,d =>
    if 8 < d then (none,false)
    else if k = 1 then (some (455,.agg []),(decide (m = []) && decide (n = [])) && decide ((ks.length : Int) = 0))
    else if k = 2 then (if m = [] then if n = [] then pairUp (readOs ks (d + 1)) else (none,false) else (none,false))
    else if k = 3 then (some (282,.agg [.str m,.str n]),((decide (m = []) || moduleB m) && localB n) && decide ((ks.length : Int) = 0))
    else (none,false)
def readOs : List Ty → Int → List (Option (TypeId × AV) × Bool)
  | [],_=>[]
  | t :: l,d=>readO t d :: readOs l d
end
theorem readOs_length (l : List Ty) (d : Int) : (readOs l d).length = l.length:=by
  induction l with
  | nil=>rfl
  | cons t l ih=>rw [readOs,List.length_cons,ih,List.length_cons]
theorem pairUp_no {l : List (Option (TypeId × AV) × Bool)} (h : ¬ (l.length : Int) = 2) : pairUp l = (none,false):=by
  match l,h with
  | [],_=>rfl
  | [_],_=>simp [pairUp]
  | [_,_],h=>exact absurd rfl h
  | _ :: _ :: _ :: _,_=>simp [pairUp]
def ReadT (t : Ty) : Prop:=∀ (d : Int) (A : List Box),0 ≤ d → d ≤ 9 → ACalls Tryz.prog 250 [.agg (enc t),.int .i64 d] A (fun v A'=>v = .tuple [ifA (readO t d).1,.bool (readO t d).2] ∧ A' = A)
set_option maxRecDepth 100000 in
theorem impl_readFun (m n : List UInt8) (ks : List Ty) (d : Int) (h0 : 0 ≤ d) (h1 : d ≤ 8) (hk : ∀ t ∈ ks,ReadT t) (A : List Box) :
    ACalls Tryz.prog 287 [.agg (enc (.mk 2 m n ks)),.int .i64 d] A (fun v A'=>v = .tuple [ifA (readO (.mk 2 m n ks) d).1,.bool (readO (.mk 2 m n ks) d).2] ∧ A' = A):=by
  have hw : IntKind.i64.wrap (d + 1) = d + 1:=wrap64 (by omega) (by omega)
  have hl : ((encs ks).length : Int) = ks.length:=by rw [encs_length]
  rw [enc,readO,if_neg (by omega),if_neg (by omega),if_pos rfl]
  refine acalls_enter (cf:=cf 50 [0,1,2,4,5,6,7,8,22,34]) foll Tryz.func287 Tryz.ntmps287 (by simp [cf]) ?_
  simp only [Tryz.f287,EnterK_some,zW,zX,zD,builtinA,isLeaf,const1,Nat.reduceAdd,Nat.reduceMul,Nat.reduceSub,Nat.reduceLT,Nat.reduceLeDiff,Nat.reduceEqDiff,Nat.reduceBEq,Nat.reduceBNe,reduceIte,reduceCtorEq,Int.reduceToNat,Int.reduceLT,Int.reduceLE,Int.reduceEq,Int.reduceNe,Int.reduceNeg,ustrA,ti3,ti9,ti34,ti36,ti490,ca250,cf,Tryz.results287]
  by_cases hm : m = []
  · rw [if_pos hm]
    by_cases hn : n = []
    · rw [if_pos hn]
      by_cases h2 : (ks.length : Int) = 2
      · match ks,h2,hk with
        | [a,b],_,hk =>
          have ha:=hk a (by simp)
          have hb:=hk b (by simp)
          clear hl
          simp only [encs]
          have h22 : decide (((2 : Nat) : Int) = 2) = true:=rfl
          simp only [zW,zX,zD,builtinA,isLeaf,const1,Nat.reduceAdd,Nat.reduceMul,Nat.reduceSub,Nat.reduceLT,Nat.reduceLeDiff,Nat.reduceEqDiff,Nat.reduceBEq,Nat.reduceBNe,reduceIte,reduceCtorEq,Int.reduceToNat,Int.reduceLT,Int.reduceLE,Int.reduceEq,Int.reduceNe,Int.reduceNeg,ustrA,ti3,ti9,ti34,ti36,ti490,ca250,cf,Tryz.results287,decide_eq_true hm,decide_eq_true hn,h22,Bool.not_true,enc_length,enc_take,hw]
          refine ⟨by decide,?_⟩
          refine callK_intro (by simp only [zW,zX,zD,builtinA,isLeaf,const1,Nat.reduceAdd,Nat.reduceMul,Nat.reduceSub,Nat.reduceLT,Nat.reduceLeDiff,Nat.reduceEqDiff,Nat.reduceBEq,Nat.reduceBNe,reduceIte,reduceCtorEq,Int.reduceToNat,Int.reduceLT,Int.reduceLE,Int.reduceEq,Int.reduceNe,Int.reduceNeg,ustrA,frzL_enc,Option.map_some,hw]; rfl) (ha _ _ (by omega) (by omega)) ?_ rfl; rintro v A' ⟨rfl,rfl⟩
          rw [readOs,readOs,readOs]
          rcases readO a (d + 1) with ⟨x,_ | _⟩
          · simp only [zW,zX,zD,builtinA,isLeaf,const1,Nat.reduceAdd,Nat.reduceMul,Nat.reduceSub,Nat.reduceLT,Nat.reduceLeDiff,Nat.reduceEqDiff,Nat.reduceBEq,Nat.reduceBNe,reduceIte,reduceCtorEq,Int.reduceToNat,Int.reduceLT,Int.reduceLE,Int.reduceEq,Int.reduceNe,Int.reduceNeg,ustrA,ti3,ti9,ti34,ti36,ti490,ca250,cf,Tryz.results287,pairUp,ifA]
          · simp only [zW,zX,zD,builtinA,isLeaf,const1,Nat.reduceAdd,Nat.reduceMul,Nat.reduceSub,Nat.reduceLT,Nat.reduceLeDiff,Nat.reduceEqDiff,Nat.reduceBEq,Nat.reduceBNe,reduceIte,reduceCtorEq,Int.reduceToNat,Int.reduceLT,Int.reduceLE,Int.reduceEq,Int.reduceNe,Int.reduceNeg,ustrA,ti3,ti9,ti34,ti36,ti490,ca250,cf,Tryz.results287,enc_length,enc_take,hw]
            refine ⟨by decide,?_⟩
            refine callK_intro (by simp only [zW,zX,zD,builtinA,isLeaf,const1,Nat.reduceAdd,Nat.reduceMul,Nat.reduceSub,Nat.reduceLT,Nat.reduceLeDiff,Nat.reduceEqDiff,Nat.reduceBEq,Nat.reduceBNe,reduceIte,reduceCtorEq,Int.reduceToNat,Int.reduceLT,Int.reduceLE,Int.reduceEq,Int.reduceNe,Int.reduceNeg,ustrA,frzL_enc,Option.map_some,hw]; rfl) (hb _ _ (by omega) (by omega)) ?_ rfl; rintro v A' ⟨rfl,rfl⟩
            rcases x with _ | ⟨t1,x1⟩ <;> rcases readO b (d + 1) with ⟨_ | ⟨t2,x2⟩,ok⟩ <;> simp only [ifA,pairUp] <;> simp only [zW,zX,zD,builtinA,isLeaf,const1,Nat.reduceAdd,Nat.reduceMul,Nat.reduceSub,Nat.reduceLT,Nat.reduceLeDiff,Nat.reduceEqDiff,Nat.reduceBEq,Nat.reduceBNe,reduceIte,reduceCtorEq,Int.reduceToNat,Int.reduceLT,Int.reduceLE,Int.reduceEq,Int.reduceNe,Int.reduceNeg,ustrA,ti3,ti9,ti34,ti36,ti490,ca250,cf,Tryz.results287]
      · rw [pairUp_no (by rw [readOs_length]; exact h2)]
        simp only [zW,zX,zD,builtinA,isLeaf,const1,Nat.reduceAdd,Nat.reduceMul,Nat.reduceSub,Nat.reduceLT,Nat.reduceLeDiff,Nat.reduceEqDiff,Nat.reduceBEq,Nat.reduceBNe,reduceIte,reduceCtorEq,Int.reduceToNat,Int.reduceLT,Int.reduceLE,Int.reduceEq,Int.reduceNe,Int.reduceNeg,ustrA,ti3,ti9,ti34,ti36,ti490,ca250,cf,Tryz.results287,hl,decide_eq_true hm,decide_eq_true hn,decide_eq_false h2,Bool.not_true,Bool.not_false,ifA]
    · rw [if_neg hn]
      simp only [zW,zX,zD,builtinA,isLeaf,const1,Nat.reduceAdd,Nat.reduceMul,Nat.reduceSub,Nat.reduceLT,Nat.reduceLeDiff,Nat.reduceEqDiff,Nat.reduceBEq,Nat.reduceBNe,reduceIte,reduceCtorEq,Int.reduceToNat,Int.reduceLT,Int.reduceLE,Int.reduceEq,Int.reduceNe,Int.reduceNeg,ustrA,ti3,ti9,ti34,ti36,ti490,ca250,cf,Tryz.results287,decide_eq_true hm,decide_eq_false hn,Bool.not_true,Bool.not_false,ifA]
  · rw [if_neg hm]
    simp only [zW,zX,zD,builtinA,isLeaf,const1,Nat.reduceAdd,Nat.reduceMul,Nat.reduceSub,Nat.reduceLT,Nat.reduceLeDiff,Nat.reduceEqDiff,Nat.reduceBEq,Nat.reduceBNe,reduceIte,reduceCtorEq,Int.reduceToNat,Int.reduceLT,Int.reduceLE,Int.reduceEq,Int.reduceNe,Int.reduceNeg,ustrA,ti3,ti9,ti34,ti36,ti490,ca250,cf,Tryz.results287,decide_eq_false hm,Bool.not_false,ifA]
set_option maxRecDepth 100000 in
theorem impl_readNode (τ : Ty) : ReadT τ:=by
  induction τ using Ty.ind with
  | h k m n ks ih =>
    intro d A h0 h1
    have hl : ((encs ks).length : Int) = ks.length:=by rw [encs_length]
    rw [enc]
    refine acalls_enter (cf:=cf 54 [0,1,2,4,5,7,9,10,28,35]) foll Tryz.func250 Tryz.ntmps250 (by simp [cf]) ?_
    simp only [Tryz.f250,EnterK_some,zW,zX,zD,builtinA,isLeaf,const1,Nat.reduceAdd,Nat.reduceMul,Nat.reduceSub,Nat.reduceLT,Nat.reduceLeDiff,Nat.reduceEqDiff,Nat.reduceBEq,Nat.reduceBNe,reduceIte,reduceCtorEq,Int.reduceToNat,Int.reduceLT,Int.reduceLE,Int.reduceEq,Int.reduceNe,Int.reduceNeg,ustrA,ti3,ti9,ti34,ti36,ti282,ti455,ca252,ca287,cf,Tryz.results250]
    by_cases h8 : 8 < d
    · rw [readO,if_pos h8]
      simp only [zW,zX,zD,builtinA,isLeaf,const1,Nat.reduceAdd,Nat.reduceMul,Nat.reduceSub,Nat.reduceLT,Nat.reduceLeDiff,Nat.reduceEqDiff,Nat.reduceBEq,Nat.reduceBNe,reduceIte,reduceCtorEq,Int.reduceToNat,Int.reduceLT,Int.reduceLE,Int.reduceEq,Int.reduceNe,Int.reduceNeg,ustrA,ti3,ti9,ti34,ti36,ti282,ti455,ca252,ca287,cf,Tryz.results250,decide_eq_true h8,ifA]
    · by_cases k1 : k = 1
      · rw [readO,if_neg h8,if_pos k1]
        simp only [zW,zX,zD,builtinA,isLeaf,const1,Nat.reduceAdd,Nat.reduceMul,Nat.reduceSub,Nat.reduceLT,Nat.reduceLeDiff,Nat.reduceEqDiff,Nat.reduceBEq,Nat.reduceBNe,reduceIte,reduceCtorEq,Int.reduceToNat,Int.reduceLT,Int.reduceLE,Int.reduceEq,Int.reduceNe,Int.reduceNeg,ustrA,ti3,ti9,ti34,ti36,ti282,ti455,ca252,ca287,cf,Tryz.results250,decide_eq_false h8,decide_eq_true k1,hl]
        refine .inl ⟨by kernel_rfl,by kernel_rfl,?_⟩
        repeat' first
          | (refine guardT_intro (fun h=>?_) (fun h=>?_) <;> (try simp only [decide_eq_true_eq,decide_eq_false_iff_not,Bool.not_eq_eq_eq_not,Bool.not_true,Bool.not_false] at h) <;> simp only [zW,zX,zD,builtinA,isLeaf,const1,Nat.reduceAdd,Nat.reduceMul,Nat.reduceSub,Nat.reduceLT,Nat.reduceLeDiff,Nat.reduceEqDiff,Nat.reduceBEq,Nat.reduceBNe,reduceIte,reduceCtorEq,Int.reduceToNat,Int.reduceLT,Int.reduceLE,Int.reduceEq,Int.reduceNe,Int.reduceNeg,ustrA,ti3,ti9,ti34,ti36,ti282,ti455,ca252,ca287,cf,Tryz.results250,hl,h])
          | (refine guardF_intro (fun h=>?_) (fun h=>?_) <;> (try simp only [decide_eq_true_eq,decide_eq_false_iff_not,Bool.not_eq_eq_eq_not,Bool.not_true,Bool.not_false] at h) <;> simp only [zW,zX,zD,builtinA,isLeaf,const1,Nat.reduceAdd,Nat.reduceMul,Nat.reduceSub,Nat.reduceLT,Nat.reduceLeDiff,Nat.reduceEqDiff,Nat.reduceBEq,Nat.reduceBNe,reduceIte,reduceCtorEq,Int.reduceToNat,Int.reduceLT,Int.reduceLE,Int.reduceEq,Int.reduceNe,Int.reduceNeg,ustrA,ti3,ti9,ti34,ti36,ti282,ti455,ca252,ca287,cf,Tryz.results250,hl,h])
          | (refine condK_intro (fun h=>?_) (fun h=>?_) <;> (try simp only [decide_eq_true_eq,decide_eq_false_iff_not,Bool.not_eq_eq_eq_not,Bool.not_true,Bool.not_false] at h) <;> simp only [zW,zX,zD,builtinA,isLeaf,const1,Nat.reduceAdd,Nat.reduceMul,Nat.reduceSub,Nat.reduceLT,Nat.reduceLeDiff,Nat.reduceEqDiff,Nat.reduceBEq,Nat.reduceBNe,reduceIte,reduceCtorEq,Int.reduceToNat,Int.reduceLT,Int.reduceLE,Int.reduceEq,Int.reduceNe,Int.reduceNeg,ustrA,ti3,ti9,ti34,ti36,ti282,ti455,ca252,ca287,cf,Tryz.results250,hl,h])
          | (refine guardDT_intro (fun h=>?_) (fun h=>?_) <;> (try simp only [decide_eq_true_eq,decide_eq_false_iff_not,Bool.not_eq_eq_eq_not,Bool.not_true,Bool.not_false] at h) <;> simp only [zW,zX,zD,builtinA,isLeaf,const1,Nat.reduceAdd,Nat.reduceMul,Nat.reduceSub,Nat.reduceLT,Nat.reduceLeDiff,Nat.reduceEqDiff,Nat.reduceBEq,Nat.reduceBNe,reduceIte,reduceCtorEq,Int.reduceToNat,Int.reduceLT,Int.reduceLE,Int.reduceEq,Int.reduceNe,Int.reduceNeg,ustrA,ti3,ti9,ti34,ti36,ti282,ti455,ca252,ca287,cf,Tryz.results250,hl,h])
          | (refine guardDF_intro (fun h=>?_) (fun h=>?_) <;> (try simp only [decide_eq_true_eq,decide_eq_false_iff_not,Bool.not_eq_eq_eq_not,Bool.not_true,Bool.not_false] at h) <;> simp only [zW,zX,zD,builtinA,isLeaf,const1,Nat.reduceAdd,Nat.reduceMul,Nat.reduceSub,Nat.reduceLT,Nat.reduceLeDiff,Nat.reduceEqDiff,Nat.reduceBEq,Nat.reduceBNe,reduceIte,reduceCtorEq,Int.reduceToNat,Int.reduceLT,Int.reduceLE,Int.reduceEq,Int.reduceNe,Int.reduceNeg,ustrA,ti3,ti9,ti34,ti36,ti282,ti455,ca252,ca287,cf,Tryz.results250,hl,h])
          | refine And.intro ?_ ?_
        all_goals simp [ifA, *]
      · by_cases k2 : k = 2
        · subst k2
          simp only [zW,zX,zD,builtinA,isLeaf,const1,Nat.reduceAdd,Nat.reduceMul,Nat.reduceSub,Nat.reduceLT,Nat.reduceLeDiff,Nat.reduceEqDiff,Nat.reduceBEq,Nat.reduceBNe,reduceIte,reduceCtorEq,Int.reduceToNat,Int.reduceLT,Int.reduceLE,Int.reduceEq,Int.reduceNe,Int.reduceNeg,ustrA,ti3,ti9,ti34,ti36,ti282,ti455,ca252,ca287,cf,Tryz.results250,decide_eq_false h8,decide_eq_false k1]
          refine callK_intro (by simp only [zW,zX,zD,builtinA,isLeaf,const1,Nat.reduceAdd,Nat.reduceMul,Nat.reduceSub,Nat.reduceLT,Nat.reduceLeDiff,Nat.reduceEqDiff,Nat.reduceBEq,Nat.reduceBNe,reduceIte,reduceCtorEq,Int.reduceToNat,Int.reduceLT,Int.reduceLE,Int.reduceEq,Int.reduceNe,Int.reduceNeg,ustrA,Option.map_some]; rfl) (impl_readFun m n ks d h0 (by omega) ih _) ?_ rfl; rintro v A' ⟨rfl,rfl⟩
          rcases readO (.mk 2 m n ks) d with ⟨_ | ⟨t,x⟩,ok⟩ <;> simp only [ifA] <;> (simp only [zW,zX,zD,builtinA,isLeaf,const1,Nat.reduceAdd,Nat.reduceMul,Nat.reduceSub,Nat.reduceLT,Nat.reduceLeDiff,Nat.reduceEqDiff,Nat.reduceBEq,Nat.reduceBNe,reduceIte,reduceCtorEq,Int.reduceToNat,Int.reduceLT,Int.reduceLE,Int.reduceEq,Int.reduceNe,Int.reduceNeg,ustrA,ti3,ti9,ti34,ti36,ti282,ti455,ca252,ca287,cf,Tryz.results250])
        · rw [readO,if_neg h8,if_neg k1,if_neg k2]
          by_cases k3 : k = 3
          · rw [if_pos k3]
            simp only [zW,zX,zD,builtinA,isLeaf,const1,Nat.reduceAdd,Nat.reduceMul,Nat.reduceSub,Nat.reduceLT,Nat.reduceLeDiff,Nat.reduceEqDiff,Nat.reduceBEq,Nat.reduceBNe,reduceIte,reduceCtorEq,Int.reduceToNat,Int.reduceLT,Int.reduceLE,Int.reduceEq,Int.reduceNe,Int.reduceNeg,ustrA,ti3,ti9,ti34,ti36,ti282,ti455,ca252,ca287,cf,Tryz.results250,decide_eq_false h8,decide_eq_false k1,decide_eq_false k2,decide_eq_true k3]
            refine .inl ⟨by kernel_rfl,by kernel_rfl,?_⟩
            refine callD_intro (by simp only [zW,zX,zD,builtinA,isLeaf,const1,Nat.reduceAdd,Nat.reduceMul,Nat.reduceSub,Nat.reduceLT,Nat.reduceLeDiff,Nat.reduceEqDiff,Nat.reduceBEq,Nat.reduceBNe,reduceIte,reduceCtorEq,Int.reduceToNat,Int.reduceLT,Int.reduceLE,Int.reduceEq,Int.reduceNe,Int.reduceNeg,ustrA,Option.map_some] <;> rfl) (impl_validName m n _) ?_ rfl
            cases hn : ((decide (m = []) || moduleB m) && localB n) with
            | true =>
              simp only [zW,zX,zD,builtinA,isLeaf,const1,Nat.reduceAdd,Nat.reduceMul,Nat.reduceSub,Nat.reduceLT,Nat.reduceLeDiff,Nat.reduceEqDiff,Nat.reduceBEq,Nat.reduceBNe,reduceIte,reduceCtorEq,Int.reduceToNat,Int.reduceLT,Int.reduceLE,Int.reduceEq,Int.reduceNe,Int.reduceNeg,ustrA,ti3,ti9,ti34,ti36,ti282,ti455,ca252,ca287,cf,Tryz.results250,hl,ifA]
            | false =>
              simp only [zW,zX,zD,builtinA,isLeaf,const1,Nat.reduceAdd,Nat.reduceMul,Nat.reduceSub,Nat.reduceLT,Nat.reduceLeDiff,Nat.reduceEqDiff,Nat.reduceBEq,Nat.reduceBNe,reduceIte,reduceCtorEq,Int.reduceToNat,Int.reduceLT,Int.reduceLE,Int.reduceEq,Int.reduceNe,Int.reduceNeg,ustrA,ti3,ti9,ti34,ti36,ti282,ti455,ca252,ca287,cf,Tryz.results250,hl,ifA]
          · rw [if_neg k3]
            simp only [zW,zX,zD,builtinA,isLeaf,const1,Nat.reduceAdd,Nat.reduceMul,Nat.reduceSub,Nat.reduceLT,Nat.reduceLeDiff,Nat.reduceEqDiff,Nat.reduceBEq,Nat.reduceBNe,reduceIte,reduceCtorEq,Int.reduceToNat,Int.reduceLT,Int.reduceLE,Int.reduceEq,Int.reduceNe,Int.reduceNeg,ustrA,ti3,ti9,ti34,ti36,ti282,ti455,ca252,ca287,cf,Tryz.results250,decide_eq_false h8,decide_eq_false k1,decide_eq_false k2,decide_eq_false k3,ifA]
end Go.Proofs.YtijlnkfiadajhaaGreat
/- Valid types as trees, and what the methods of the program answer on them. -/
set_option linter.unusedVariables false
set_option linter.unusedSimpArgs false
namespace Go.Proofs.YtijlnkfiadajhaaGreat
open Go.Abs
inductive VT where
  | num
  | fn (a b : VT)
  | nm (m n : List UInt8)
def vT : VT → TypeId
  | .num=>455
  | .fn _ _=>490
  | .nm _ _=>282
def vX : VT → AV
  | .num=>.agg []
  | .fn a b=>.agg [.iface (vT a) (vX a),.iface (vT b) (vX b)]
  | .nm m n=>.agg [.str m,.str n]
def toTy : VT → Ty
  | .num=>.mk 1 [] [] []
  | .fn a b=>.mk 2 [] [] [toTy a,toTy b]
  | .nm m n=>.mk 3 m n []
def dep : VT → Nat
  | .num=>1
  | .fn a b=>1 + max (dep a) (dep b)
  | .nm _ _=>1
def cnt : VT → Nat
  | .num=>1
  | .fn a b=>1 + cnt a + cnt b
  | .nm _ _=>1
def nmB (m n : List UInt8) : Bool:=(decide (m = []) || moduleB m) && localB n
def okV : VT → Bool
  | .num=>true
  | .fn a b=>okV a && okV b
  | .nm m n=>nmB m n
theorem dep_pos : ∀ v,1 ≤ dep v
  | .num=>by simp [dep]
  | .fn a b=>by simp [dep]
  | .nm _ _=>by simp [dep]
theorem cnt_dep : ∀ v,cnt v + 1 ≤ 2 ^ dep v
  | .num=>by simp [dep,cnt]
  | .nm _ _=>by simp [dep,cnt]
  | .fn a b=>by
    have ha:=cnt_dep a
    have hb:=cnt_dep b
    have h1 : 2 ^ dep a ≤ 2 ^ max (dep a) (dep b):=Nat.pow_le_pow_right (by decide) (Nat.le_max_left _ _)
    have h2 : 2 ^ dep b ≤ 2 ^ max (dep a) (dep b):=Nat.pow_le_pow_right (by decide) (Nat.le_max_right _ _)
    rw [dep,cnt,Nat.pow_add,Nat.pow_one]
    omega
theorem cnt_lt {v : VT} {k : Nat} (h : dep v ≤ k) : cnt v < 2 ^ k:=by
  have:=cnt_dep v
  have h2 : 2 ^ dep v ≤ 2 ^ k:=Nat.pow_le_pow_right (by decide) h
  omega
theorem count_toTy : ∀ v,count (toTy v) = cnt v
  | .num=>by simp [toTy,count,counts,cnt]
  | .nm _ _=>by simp [toTy,count,counts,cnt]
  | .fn a b=>by simp [toTy,count,counts,cnt,count_toTy a,count_toTy b]; omega
theorem shape_toTy : ∀ (v : VT) (d : Int),okV v = true → (dep v : Int) ≤ d → shape (toTy v) d = true
  | .num,d,_,h=>by
    simp [dep] at h
    simp [toTy,shape,shapes,kidsOf,ownB,h]
  | .nm m n,d,hv,h=>by
    simp [dep] at h
    simp [okV,nmB] at hv
    simp [toTy,shape,shapes,kidsOf,ownB,h,hv.1,hv.2]
  | .fn a b,d,hv,h=>by
    simp [dep] at h
    simp [okV] at hv
    have ha:=shape_toTy a (d - 1) hv.1 (by omega)
    have hb:=shape_toTy b (d - 1) hv.2 (by omega)
    simp [toTy,shape,shapes,kidsOf,ownB,ha,hb]
    have:=dep_pos a
    omega
theorem shape_of (τ : Ty) : ∀ (d : Int),shape τ d = true → ∃ v,τ = toTy v ∧ okV v = true ∧ (dep v : Int) ≤ d:=by
  induction τ using Ty.ind with
  | h k m n ks ih =>
    intro d h
    rw [shape] at h
    simp only [Bool.and_eq_true,decide_eq_true_eq] at h
    obtain ⟨⟨h1,h2,h3⟩,h4⟩:=h
    by_cases k1 : k = 1
    · subst k1
      simp [kidsOf] at h2
      have : ks = []:=by cases ks with
        | nil=>rfl
        | cons=>simp at h2; omega
      subst this
      simp [ownB] at h3
      obtain ⟨rfl,rfl⟩:=h3
      exact ⟨.num,rfl,rfl,h1⟩
    · by_cases k3 : k = 3
      · subst k3
        simp [kidsOf] at h2
        have : ks = []:=by cases ks with
          | nil=>rfl
          | cons=>simp at h2; omega
        subst this
        simp [ownB] at h3
        exact ⟨.nm m n,rfl,by simp [okV,nmB,h3.1,h3.2],h1⟩
      · by_cases k2 : k = 2
        · subst k2
          simp [kidsOf] at h2
          match ks,h2,ih,h4 with
          | [a,b],_,ih,h4 =>
            simp [ownB] at h3
            obtain ⟨rfl,rfl⟩:=h3
            simp only [shapes,Bool.and_eq_true] at h4
            obtain ⟨x,rfl,hx1,hx2⟩:=ih a (by simp) _ h4.1
            obtain ⟨y,rfl,hy1,hy2⟩:=ih b (by simp) _ h4.2.1
            refine ⟨.fn x y,rfl,by simp [okV,hx1,hy1],?_⟩
            simp only [dep]
            omega
          | [],h2,_,_=>simp at h2
          | [_],h2,_,_=>simp at h2
          | _ :: _ :: _ :: _,h2,_,_=>simp at h2; omega
        · simp [kidsOf,k1,k2,k3] at h2; try omega
theorem readO_toTy : ∀ (v : VT) (d : Int),okV v = true → d + dep v ≤ 9 → readO (toTy v) d = (some (vT v,vX v),true)
  | .num,d,_,h=>by
    simp [dep] at h
    have : ¬ 8 < d:=by omega
    simp [toTy,readO,this,vT,vX]
  | .nm m n,d,hv,h=>by
    simp [dep] at h
    simp [okV,nmB] at hv
    have : ¬ 8 < d:=by omega
    simp [toTy,readO,this,vT,vX,hv.1,hv.2]
  | .fn a b,d,hv,h=>by
    simp [dep] at h
    simp [okV] at hv
    have ha:=readO_toTy a (d + 1) hv.1 (by omega)
    have hb:=readO_toTy b (d + 1) hv.2 (by omega)
    have:=dep_pos a
    have : ¬ 8 < d:=by omega
    simp [toTy,readO,readOs,this,vT,vX,ha,hb,pairUp,ifA]
theorem readO_of (τ : Ty) : ∀ (d : Int),(readO τ d).2 = true → ∃ v,τ = toTy v ∧ okV v = true ∧ d + dep v ≤ 9:=by
  induction τ using Ty.ind with
  | h k m n ks ih =>
    intro d h
    rw [readO] at h
    split at h
    · cases h
    · rename_i hd
      split at h
      · rename_i k1
        subst k1
        simp at h
        obtain ⟨⟨rfl,rfl⟩,h⟩:=h
        have : ks = []:=by cases ks with
          | nil=>rfl
          | cons=>simp at h
        subst this
        exact ⟨.num,rfl,rfl,by simp [dep]; omega⟩
      · split at h
        · rename_i k1 k2
          subst k2
          split at h
          · rename_i hm
            subst hm
            split at h
            · rename_i hn
              subst hn
              match ks,ih,h with
              | [a,b],ih,h =>
                simp only [readOs,pairUp] at h
                have ha : (readO a (d + 1)).2 = true:=by
                  generalize readO a (d + 1) = x at h
                  generalize readO b (d + 1) = y at h
                  rcases x with ⟨x,_ | _⟩ <;> simp [pairUp] at h ⊢
                have hb : (readO b (d + 1)).2 = true:=by
                  generalize readO a (d + 1) = x at h
                  generalize readO b (d + 1) = y at h
                  rcases x with ⟨x,_ | _⟩ <;> rcases y with ⟨y,_ | _⟩ <;> simp [pairUp] at h ⊢
                obtain ⟨x,rfl,hx1,hx2⟩:=ih a (by simp) _ ha
                obtain ⟨y,rfl,hy1,hy2⟩:=ih b (by simp) _ hb
                refine ⟨.fn x y,rfl,by simp [okV,hx1,hy1],?_⟩
                simp only [dep]
                omega
              | [],_,h=>simp [readOs,pairUp] at h
              | [_],_,h=>simp [readOs,pairUp] at h
              | _ :: _ :: _ :: _,_,h=>simp [readOs,pairUp] at h
            · cases h
          · cases h
        · split at h
          · rename_i k1 k2 k3
            subst k3
            simp at h
            have : ks = []:=by cases ks with
              | nil=>rfl
              | cons=>simp at h
            subst this
            exact ⟨.nm m n,rfl,by simp [okV,nmB,h.1.1,h.1.2],by simp [dep]; omega⟩
          · cases h
structure VOk (v : VT) : Prop where
  ok : okV v = true
  dep : dep v ≤ 8
  cnt : cnt v ≤ 63
theorem validB_toTy {v : VT} (h : VOk v) : validB (toTy v) = true:=by
  have:=h.dep
  rw [validB,shape_toTy v 8 h.ok (by omega),count_toTy,decide_eq_true h.cnt]
  rfl
theorem validB_of {τ : Ty} (h : validB τ = true) : ∃ v,τ = toTy v ∧ VOk v:=by
  simp only [validB,Bool.and_eq_true,decide_eq_true_eq] at h
  obtain ⟨v,rfl,h1,h2⟩:=shape_of τ 8 h.1
  rw [count_toTy] at h
  exact ⟨v,rfl,h1,by omega,h.2⟩
theorem valid_cases (τ : Ty) : (∃ v,τ = toTy v ∧ VOk v) ∨ validB τ = false:=by
  cases h : validB τ with
  | true=>exact .inl (validB_of h)
  | false=>exact .inr rfl
theorem frzC_vX (v : VT) (A : List Box) : frzC (vX v) A = some (vX v,A):=by cases v <;> rfl
def pickF (x y z : FuncId) : VT → FuncId
  | .num=>x
  | .fn _ _=>y
  | .nm _ _=>z
structure Met (name : String) (gs : VT → FuncId) : Prop where
  find : ∀ v,methA Tryz.prog (vT v) name = some (gs v)
  call : ∀ v,callable Tryz.prog (gs v) = true
theorem met3 {name : String} {x y z : FuncId} (h1 : methA Tryz.prog 455 name = some x) (h2 : methA Tryz.prog 490 name = some y) (h3 : methA Tryz.prog 282 name = some z)
    (c1 : callable Tryz.prog x = true) (c2 : callable Tryz.prog y = true) (c3 : callable Tryz.prog z = true) : Met name (pickF x y z) :=
  ⟨fun v=>match v with
    | .num=>h1
    | .fn _ _=>h2
    | .nm _ _=>h3,
   fun v=>match v with
    | .num=>c1
    | .fn _ _=>c2
    | .nm _ _=>c3⟩
theorem meth_invK {own ow : FuncId → Bool} {name : String} {gs : VT → FuncId} {v : VT} {args args' : List AV} {A A1 : List Box} {R : AV → List Box → Prop} {N : Nat} {ops : Array Oper} {Q : Env → List Box → Prop} {rest : List Oper} {d : Option Tmp} {e : Env}
    (hm : Met name gs) (h : ACalls Tryz.prog (gs v) (vX v :: args') A1 R) (hf : frzs args A = some (args',A1)) (ho : ∀ g,own g = false)
    (hk : ∀ r A',R r A' → wpO Tryz.prog ow N ops Q rest (putA N d r e) A') : InvK Tryz.prog own name (.iface (vT v) (vX v)) args A (ContO Tryz.prog ow N ops Q rest d e):=by
  have h1:=hm.find v
  have h2:=hm.call v
  generalize gs v = g at h h1 h2
  refine ⟨g,h1,h2,callK_intro (args':=vX v :: args') (A1:=A1) ?_ h hk (ho g)⟩
  simp only [frzs,frzC_vX,hf]
theorem meth_invD {own : FuncId → Bool} {name : String} {gs : VT → FuncId} {v : VT} {args args' : List AV} {A : List Box} {x : AV} {N : Nat} {ops : Array Oper} {Q : Env → Prop} {rest : List Oper} {d : Option Tmp} {e : Env}
    (hm : Met name gs) (h : ACalls Tryz.prog (gs v) (vX v :: args') A (fun v' A'=>v' = x ∧ A' = A)) (hf : frzs args A = some (args',A)) (ho : ∀ g,own g = false)
    (hk : wpD Tryz.prog own N ops A Q rest (putA N d x e)) : InvD Tryz.prog own name (.iface (vT v) (vX v)) args A N ops Q rest d e:=by
  have h1:=hm.find v
  have h2:=hm.call v
  generalize gs v = g at h h1 h2
  refine ⟨g,h1,h2,callD_intro (args':=vX v :: args') ?_ h hk (ho g)⟩
  simp only [frzs,frzC_vX,hf]
end Go.Proofs.YtijlnkfiadajhaaGreat
/- The methods that measure a valid type, and the functions that read one. -/
set_option linter.unusedVariables false
set_option linter.unusedSimpArgs false
namespace Go.Proofs.YtijlnkfiadajhaaGreat
open Go.Abs
def DepM (v : VT) : Prop:=∀ A,ACalls Tryz.prog ((pickF 457 482 389) v) [vX v] A (fun r A'=>r = .int .i64 (dep v) ∧ A' = A)
def CntM (v : VT) : Prop:=∀ A,ACalls Tryz.prog ((pickF 456 481 388) v) [vX v] A (fun r A'=>r = .int .i64 (cnt v) ∧ A' = A)
set_option maxRecDepth 100000 in
theorem num_depth : DepM .num:=fun A=>by
  show ACalls Tryz.prog 457 _ _ _
  rw [vX]
  refine acalls_enter (cf:=cf 3 [0,2]) foll Tryz.func457 Tryz.ntmps457 (by simp [cf]) ?_
  simp only [Tryz.f457,EnterK_some,zW,zX,zD,builtinA,isLeaf,const1,ustrA,simprocAttr,ti455,cf,Tryz.results457]
  simp [dep]
set_option maxRecDepth 100000 in
theorem name_depth (m n : List UInt8) : DepM (.nm m n):=fun A=>by
  show ACalls Tryz.prog 389 _ _ _
  rw [vX]
  refine acalls_enter (cf:=cf 3 [0,2]) foll Tryz.func389 Tryz.ntmps389 (by simp [cf]) ?_
  simp only [Tryz.f389,EnterK_some,zW,zX,zD,builtinA,isLeaf,const1,ustrA,simprocAttr,ti282,cf,Tryz.results389]
  simp [dep]
set_option maxRecDepth 100000 in
theorem num_count : CntM .num:=fun A=>by
  show ACalls Tryz.prog 456 _ _ _
  rw [vX]
  refine acalls_enter (cf:=cf 3 [0,2]) foll Tryz.func456 Tryz.ntmps456 (by simp [cf]) ?_
  simp only [Tryz.f456,EnterK_some,zW,zX,zD,builtinA,isLeaf,const1,ustrA,simprocAttr,ti455,cf,Tryz.results456]
  simp [cnt]
set_option maxRecDepth 100000 in
theorem name_count (m n : List UInt8) : CntM (.nm m n):=fun A=>by
  show ACalls Tryz.prog 388 _ _ _
  rw [vX]
  refine acalls_enter (cf:=cf 3 [0,2]) foll Tryz.func388 Tryz.ntmps388 (by simp [cf]) ?_
  simp only [Tryz.f388,EnterK_some,zW,zX,zD,builtinA,isLeaf,const1,ustrA,simprocAttr,ti282,cf,Tryz.results388]
  simp [cnt]
set_option maxRecDepth 100000 in
theorem fun_depth (a b : VT) (ha : DepM a) (hb : DepM b) (hd : dep a < 1000 ∧ dep b < 1000) : DepM (.fn a b):=fun A=>by
  show ACalls Tryz.prog 482 _ _ _
  rw [vX]
  refine acalls_enter (cf:=cf 11 [0,1,2]) foll Tryz.func482 Tryz.ntmps482 (by simp [cf]) ?_
  simp only [Tryz.f482,EnterK_some,zW,zX,zD,builtinA,isLeaf,const1,ustrA,simprocAttr,ti3,ti262,ti490,cf,Tryz.results482]
  refine .inl ⟨by kernel_rfl,by kernel_rfl,?_⟩
  refine wpD_invoke _ _ _ _ _ _ _ _ _ _ _ _ _ _ _ _ ?_
  simp only [zW,zX,zD,builtinA,isLeaf,const1,ustrA,simprocAttr,ti3,ti262,ti490,cf,Tryz.results482]
  refine meth_invD (met3 (by kernel_rfl) (by kernel_rfl) (by kernel_rfl) (by kernel_rfl) (by kernel_rfl) (by kernel_rfl)) (ha _) rfl (fun _=>rfl) ?_
  simp only [zW,zX,zD,builtinA,isLeaf,const1,ustrA,simprocAttr,ti3,ti262,ti490,cf,Tryz.results482]
  refine wpD_invoke _ _ _ _ _ _ _ _ _ _ _ _ _ _ _ _ ?_
  simp only [zW,zX,zD,builtinA,isLeaf,const1,ustrA,simprocAttr,ti3,ti262,ti490,cf,Tryz.results482]
  refine meth_invD (met3 (by kernel_rfl) (by kernel_rfl) (by kernel_rfl) (by kernel_rfl) (by kernel_rfl) (by kernel_rfl)) (hb _) rfl (fun _=>rfl) ?_
  simp only [zW,zX,zD,builtinA,isLeaf,const1,ustrA,simprocAttr,ti3,ti262,ti490,cf,Tryz.results482]
  rw [wrap64 (by split <;> omega) (by split <;> omega),dep]
  congr 1
  split <;> omega
set_option maxRecDepth 100000 in
theorem fun_count (a b : VT) (ha : CntM a) (hb : CntM b) (hd : cnt a < 100000 ∧ cnt b < 100000) : CntM (.fn a b):=fun A=>by
  show ACalls Tryz.prog 481 _ _ _
  rw [vX]
  refine acalls_enter (cf:=cf 11 [0,1,2]) foll Tryz.func481 Tryz.ntmps481 (by simp [cf]) ?_
  simp only [Tryz.f481,EnterK_some,zW,zX,zD,builtinA,isLeaf,const1,ustrA,simprocAttr,ti3,ti262,ti490,cf,Tryz.results481]
  refine .inl ⟨by kernel_rfl,by kernel_rfl,?_⟩
  refine wpD_invoke _ _ _ _ _ _ _ _ _ _ _ _ _ _ _ _ ?_
  simp only [zW,zX,zD,builtinA,isLeaf,const1,ustrA,simprocAttr,ti3,ti262,ti490,cf,Tryz.results481]
  refine meth_invD (met3 (by kernel_rfl) (by kernel_rfl) (by kernel_rfl) (by kernel_rfl) (by kernel_rfl) (by kernel_rfl)) (ha _) rfl (fun _=>rfl) ?_
  simp only [zW,zX,zD,builtinA,isLeaf,const1,ustrA,simprocAttr,ti3,ti262,ti490,cf,Tryz.results481]
  refine wpD_invoke _ _ _ _ _ _ _ _ _ _ _ _ _ _ _ _ ?_
  simp only [zW,zX,zD,builtinA,isLeaf,const1,ustrA,simprocAttr,ti3,ti262,ti490,cf,Tryz.results481]
  refine meth_invD (met3 (by kernel_rfl) (by kernel_rfl) (by kernel_rfl) (by kernel_rfl) (by kernel_rfl) (by kernel_rfl)) (hb _) rfl (fun _=>rfl) ?_
  simp only [zW,zX,zD,builtinA,isLeaf,const1,ustrA,simprocAttr,ti3,ti262,ti490,cf,Tryz.results481]
  have h1 : IntKind.i64.wrap (1 + (cnt a : Int)) = 1 + cnt a:=wrap64 (by omega) (by omega)
  rw [h1,wrap64 (by omega) (by omega),cnt]
  congr 1
theorem depM : ∀ v,dep v ≤ 9 → DepM v
  | .num,_=>num_depth
  | .nm m n,_=>name_depth m n
  | .fn a b,h=>by
    rw [dep] at h
    exact fun_depth a b (depM a (by omega)) (depM b (by omega)) (by omega)
theorem cntM : ∀ v,cnt v < 100000 → CntM v
  | .num,_=>num_count
  | .nm m n,_=>name_count m n
  | .fn a b,h=>by
    rw [cnt] at h
    exact fun_count a b (cntM a (by omega)) (cntM b (by omega)) (by omega)
set_option maxRecDepth 100000 in
theorem impl_withinLimits (v : VT) (hd : dep v ≤ 9) (A : List Box) : ACalls Tryz.prog 251 [.iface (vT v) (vX v)] A (fun r A'=>r = .bool (decide (dep v ≤ 8) && decide (cnt v ≤ 63)) ∧ A' = A):=by
  have hc:=cnt_lt hd
  refine acalls_enter (cf:=cf 11 [0,2]) foll Tryz.func251 Tryz.ntmps251 (by simp [cf]) ?_
  simp only [Tryz.f251,EnterK_some,zW,zX,zD,builtinA,isLeaf,const1,ustrA,simprocAttr,ti3,cf,Tryz.results251]
  refine wpO_invoke _ _ _ _ _ _ _ _ _ _ _ _ _ _ _ _ ?_
  simp only [zW,zX,zD,builtinA,isLeaf,const1,ustrA,simprocAttr,ti3,cf,Tryz.results251]
  refine meth_invK (met3 (by kernel_rfl) (by kernel_rfl) (by kernel_rfl) (by kernel_rfl) (by kernel_rfl) (by kernel_rfl)) (depM v hd _) rfl (fun _=>rfl) ?_
  rintro v A' ⟨rfl,rfl⟩
  simp only [zW,zX,zD,builtinA,isLeaf,const1,ustrA,simprocAttr,ti3,cf,Tryz.results251]
  by_cases h8 : dep v ≤ 8
  · have e8 : decide ((dep v : Int) ≤ 8) = true:=decide_eq_true (by omega)
    rw [decide_eq_true h8]
    simp only [zW,zX,zD,builtinA,isLeaf,const1,ustrA,simprocAttr,ti3,cf,Tryz.results251,e8]
    refine wpO_invoke _ _ _ _ _ _ _ _ _ _ _ _ _ _ _ _ ?_
    simp only [zW,zX,zD,builtinA,isLeaf,const1,ustrA,simprocAttr,ti3,cf,Tryz.results251]
    refine meth_invK (met3 (by kernel_rfl) (by kernel_rfl) (by kernel_rfl) (by kernel_rfl) (by kernel_rfl) (by kernel_rfl)) (cntM v (by omega) _) rfl (fun _=>rfl) ?_
    rintro v A' ⟨rfl,rfl⟩
    simp only [zW,zX,zD,builtinA,isLeaf,const1,ustrA,simprocAttr,ti3,cf,Tryz.results251]
    simp
    omega
  · have e8 : decide ((dep v : Int) ≤ 8) = false:=decide_eq_false (by omega)
    rw [decide_eq_false h8]
    simp only [zW,zX,zD,builtinA,isLeaf,const1,ustrA,simprocAttr,ti3,cf,Tryz.results251,e8]
set_option maxRecDepth 100000 in
theorem impl_readType (τ : Ty) (A : List Box) : ACalls Tryz.prog 210 [.agg (enc τ)] A (fun r A'=>((∃ v,τ = toTy v ∧ VOk v ∧ r = .tuple [.iface (vT v) (vX v),.bool true]) ∨ (validB τ = false ∧ r = .tuple [.nili,.bool false])) ∧ A' = A):=by
  refine acalls_enter (cf:=cf 19 [0,1,2,3,4,5,17]) foll Tryz.func210 Tryz.ntmps210 (by simp [cf]) ?_
  simp only [Tryz.f210,EnterK_some,zW,zX,zD,builtinA,isLeaf,const1,ustrA,simprocAttr,ti36,ca250,ca251,cf,Tryz.results210]
  simp only [enc_take]
  refine ⟨by rw [enc_length]; omega,?_⟩
  refine callK_intro (by simp only [zW,zX,zD,builtinA,isLeaf,const1,ustrA,simprocAttr,frzL_enc,Option.map_some]; rfl) (impl_readNode τ _ _ (by omega) (by omega)) ?_ rfl; rintro v A' ⟨rfl,rfl⟩
  cases hr : (readO τ 1).2 with
  | false =>
    have hv : validB τ = false:=by
      rcases valid_cases τ with ⟨v,rfl,hv⟩ | h
      · have:=hv.dep
        rw [readO_toTy v 1 hv.ok (by omega)] at hr
        cases hr
      · exact h
    simp only [zW,zX,zD,builtinA,isLeaf,const1,ustrA,simprocAttr,ti36,ca250,ca251,cf,Tryz.results210]
    exact .inr hv
  | true =>
    obtain ⟨v,rfl,hv,hd⟩:=readO_of τ 1 hr
    have hro:=readO_toTy v 1 hv hd
    have hcl:=cnt_lt (v:=v) (k:=9) (by omega)
    rw [hro]
    simp only [ifA]
    simp only [zW,zX,zD,builtinA,isLeaf,const1,ustrA,simprocAttr,ti36,ca250,ca251,cf,Tryz.results210]
    refine callK_intro (by simp only [zW,zX,zD,builtinA,isLeaf,const1,ustrA,simprocAttr]; rfl) (impl_withinLimits v (by omega) _) ?_ rfl; rintro v A' ⟨rfl,rfl⟩
    by_cases hc : cnt v ≤ 63
    · have h8 : dep v ≤ 8:=by omega
      rw [decide_eq_true hc,decide_eq_true h8]
      simp only [zW,zX,zD,builtinA,isLeaf,const1,ustrA,simprocAttr,ti36,ca250,ca251,cf,Tryz.results210]
      exact .inl ⟨v,rfl,⟨hv,h8,hc⟩,rfl⟩
    · have hn : validB (toTy v) = false:=by
        rw [validB,count_toTy,decide_eq_false hc,Bool.and_false]
      rw [decide_eq_false hc]
      simp only [zW,zX,zD,builtinA,isLeaf,const1,ustrA,simprocAttr,ti36,ca250,ca251,cf,Tryz.results210]
      exact .inr hn
end Go.Proofs.YtijlnkfiadajhaaGreat
/- From a law's argument of the recursive type to a tree. -/
set_option linter.unusedVariables false
set_option linter.unusedSimpArgs false
namespace Go.Proofs.YtijlnkfiadajhaaGreat
open Go.Abs Go.RowKit Go.ChangeShapes Go.WideShapes Go.ChangeAt Go.ChangeMaps
theorem c3 : Tryz.prog.cellsOf 3 = 1:=by kernel_rfl
section
variable {H : Type} {enc' : TypeId × Value → H} {W : World}
end
end Go.Proofs.YtijlnkfiadajhaaGreat
/- Expressions as trees, and what the laws' helpers do with them. -/
set_option linter.unusedVariables false
set_option linter.unusedSimpArgs false
namespace Go.Proofs.YtijlnkfiadajhaaGreat
open Go.Abs
inductive Ex where
  | mk (kind n : Int) (mod name : List UInt8) (arg : Ty) (kids : List Ex)
theorem Ex.ind {M : Ex → Prop} (h : ∀ k i m n t ks,(∀ x ∈ ks,M x) → M (.mk k i m n t ks)) : ∀ x,M x
  | .mk k i m n t ks=>h k i m n t ks fun x hx=>Ex.ind h x
termination_by x=>SizeOf.sizeOf x
decreasing_by
  have:=List.sizeOf_lt_of_mem hx
  simp only [Ex.mk.sizeOf_spec]
  omega
theorem encT4 (t : Ty) : enc t = [.int .i64 t.kind,.str t.mod,.str t.name,.slice (encs t.kids)]:=by cases t; rw [enc]; rfl
mutual
def encX : Ex → List AV
  | .mk k i m n t ks=>[.int .i64 k,.int .i64 i,.str m,.str n,.int .i64 t.kind,.str t.mod,.str t.name,.slice (encs t.kids),.slice (encXs ks)]
def encXs : List Ex → List (List AV)
  | []=>[]
  | x :: l=>encX x :: encXs l
end
mutual
def szX : Ex → Nat
  | .mk _ _ m n t ks=>m.length + n.length + sz t + (ks.length + szXs ks)
def szXs : List Ex → Nat
  | []=>0
  | x :: l=>szX x + szXs l
end
inductive Ex.Ok : Ex → Prop
  | mk {k i : Int} {m n : List UInt8} {t : Ty} {ks : List Ex} : m.length < 2 ^ 63 → n.length < 2 ^ 63 → t.Ok → ks.length < 2 ^ 63 → (∀ x ∈ ks,Ex.Ok x) → Ex.Ok (.mk k i m n t ks)
def ex0 : Ex:=.mk 0 0 [] [] ty0 []
def zex : List AV:=[.int .i64 0,.int .i64 0,.str [],.str [],.int .i64 0,.str [],.str [],.slice [],.slice []]
theorem encXs_map : ∀ l,encXs l = l.map encX
  | []=>rfl
  | t :: l=>by rw [encXs,encXs_map l]; rfl
theorem encXs_length (l : List Ex) : (encXs l).length = l.length:=by rw [encXs_map]; simp
theorem encXs_getD {l : List Ex} {i : Nat} (h : i < l.length) : (encXs l).getD i [] = encX (l.getD i ex0):=by
  rw [encXs_map]; simp [List.getD,h]
theorem encX_length (t : Ex) : (encX t).length = 9:=by cases t; rw [encX]; rfl
theorem encX_take (t : Ex) : List.take 9 (encX t) = encX t:=by cases t; rw [encX]; rfl
theorem encX_leaf (t : Ex) : ∀ v ∈ encX t,isLeaf v = true:=by cases t; rw [encX]; simp [isLeaf]
theorem frzL_encX (t : Ex) (A : List Box) : frzL (encX t) A = some (encX t,A):=by cases t; rw [encX]; rfl
theorem ex_mem {l : List Ex} {i : Nat} (h : i < l.length) : l.getD i ex0 ∈ l:=by simp [List.getD,h]
theorem ex_take {l : List Ex} {i : Nat} (h : i < l.length) : l.take (i + 1) = l.take i ++ [l.getD i ex0]:=by
  rw [List.take_add_one]; simp [List.getD,h]
theorem szXs_mem {t : Ex} {l : List Ex} (h : t ∈ l) : szX t ≤ szXs l:=by
  induction l with
  | nil=>simp at h
  | cons u l ih =>
    rw [szXs]
    rcases List.mem_cons.1 h with rfl | h
    · omega
    · have:=ih h; omega
end Go.Proofs.YtijlnkfiadajhaaGreat
