/- Types, SigD, TypesImpl. -/
import Derived.Test.YtnjdbgiincliaaaGreatM00
import Derived.Test.YtnjdbgiincliaaaGreatAbsW3
/- Types as trees, and what the functions on them answer. -/
set_option linter.unusedVariables false
set_option linter.unusedSimpArgs false
namespace Go.Proofs.YtnjdbgiincliaaaGreat
open Go.Abs
inductive Ty where
  | mk (kind : Int) (mod name : List UInt8) (kids : List Ty)
noncomputable instance instTyDec : DecidableEq Ty:=fun a b=>Classical.propDecidable (a = b)
def Ty.kind : Ty → Int | .mk k _ _ _=>k
def Ty.mod : Ty → List UInt8 | .mk _ m _ _=>m
def Ty.name : Ty → List UInt8 | .mk _ _ n _=>n
def Ty.kids : Ty → List Ty | .mk _ _ _ ks=>ks
theorem Ty.ind {M : Ty → Prop} (h : ∀ k m n ks,(∀ t ∈ ks,M t) → M (.mk k m n ks)) : ∀ t,M t
  | .mk k m n ks=>h k m n ks fun t ht=>Ty.ind h t
termination_by t=>SizeOf.sizeOf t
decreasing_by
  have:=List.sizeOf_lt_of_mem ht
  simp only [Ty.mk.sizeOf_spec]
  omega
mutual
def enc : Ty → List AV
  | .mk k m n ks=>[.int .i64 k,.str m,.str n,.slice (encs ks)]
def encs : List Ty → List (List AV)
  | []=>[]
  | t :: l=>enc t :: encs l
end
mutual
def encA : Ty → List AV
  | .mk k m n ks=>[.int .i64 k,.str m,.str n,.aslice (encAs ks)]
def encAs : List Ty → List (List AV)
  | []=>[]
  | t :: l=>encA t :: encAs l
end
mutual
def sz : Ty → Nat
  | .mk _ m n ks=>m.length + n.length + (ks.length + szs ks)
def szs : List Ty → Nat
  | []=>0
  | t :: l=>sz t + szs l
end
mutual
def count : Ty → Nat
  | .mk _ _ _ ks=>1 + counts ks
def counts : List Ty → Nat
  | []=>0
  | t :: l=>count t + counts l
end
inductive Ty.Ok : Ty → Prop
  | mk {k : Int} {m n : List UInt8} {ks : List Ty} : m.length < 2 ^ 63 → n.length < 2 ^ 63 → ks.length < 2 ^ 63 → (∀ t ∈ ks,Ty.Ok t) → Ty.Ok (.mk k m n ks)
def ty0 : Ty:=.mk 0 [] [] []
def zty : List AV:=[.int .i64 0,.str [],.str [],.slice []]
theorem encs_map : ∀ l,encs l = l.map enc
  | []=>rfl
  | t :: l=>by rw [encs,encs_map l]; rfl
theorem encs_length (l : List Ty) : (encs l).length = l.length:=by rw [encs_map]; simp
theorem encs_getD {l : List Ty} {i : Nat} (h : i < l.length) : (encs l).getD i [] = enc (l.getD i ty0):=by
  rw [encs_map]; simp [List.getD,h]
theorem enc_length (t : Ty) : (enc t).length = 4:=by cases t; rw [enc]; rfl
theorem enc_take (t : Ty) : List.take 4 (enc t) = enc t:=by cases t; rw [enc]; rfl
theorem row_step {l : List Ty} {i : Nat} (h : i < l.length) : (encs (l.take i) ++ List.replicate (l.length - i) zty).set i (enc (l.getD i ty0) ++ List.drop 4 ((encs (l.take i) ++ List.replicate (l.length - i) zty).getD i [])) = encs (l.take (i + 1)) ++ List.replicate (l.length - (i + 1)) zty:=by
  have e1 : (encs (l.take i)).length = i:=by rw [encs_length]; simp; omega
  have e2 : List.drop 4 ((encs (l.take i) ++ List.replicate (l.length - i) zty).getD i []) = []:=by
    have e3 : l.length - i = (l.length - (i + 1)) + 1:=by omega
    rw [List.getD,List.getElem?_append_right (by omega),e1,Nat.sub_self,e3,List.replicate_succ]
    rfl
  have e4 : l.length - i = (l.length - (i + 1)) + 1:=by omega
  rw [e2,List.append_nil,List.set_append_right _ _ (by omega),e1,Nat.sub_self,e4,List.replicate_succ,List.set_cons_zero]
  rw [encs_map,encs_map,List.take_add_one,List.map_append,List.append_assoc]
  simp [List.getD,h]
theorem enc_leaf (t : Ty) : ∀ v ∈ enc t,isLeaf v = true:=by cases t; rw [enc]; simp [isLeaf]
theorem frzL_enc (t : Ty) (A : List Box) : frzL (enc t) A = some (enc t,A):=by cases t; rw [enc]; rfl
theorem encAs_map : ∀ l,encAs l = l.map encA
  | []=>rfl
  | t :: l=>by rw [encAs,encAs_map l]; rfl
theorem encAs_length (l : List Ty) : (encAs l).length = l.length:=by rw [encAs_map]; simp
theorem encAs_getD {l : List Ty} {i : Nat} (h : i < l.length) : (encAs l).getD i [] = encA (l.getD i ty0):=by
  rw [encAs_map]; simp [List.getD,h]
theorem encA_length (t : Ty) : (encA t).length = 4:=by cases t; rw [encA]; rfl
theorem encA_take (t : Ty) : List.take 4 (encA t) = encA t:=by cases t; rw [encA]; rfl
theorem frzL_encA (t : Ty) (A : List Box) : frzL (encA t) A = some (encA t,A):=by cases t; rw [encA]; rfl
theorem getD_mem {l : List Ty} {i : Nat} (h : i < l.length) : l.getD i ty0 ∈ l:=by simp [List.getD,h]
theorem szs_take {l : List Ty} {i : Nat} (h : i < l.length) : szs (l.take (i + 1)) = szs (l.take i) + sz (l.getD i ty0):=by
  induction l generalizing i with
  | nil=>simp at h
  | cons t l ih =>
    cases i with
    | zero=>simp [szs,List.getD]
    | succ i =>
      have:=ih (i:=i) (by simpa using h)
      simp only [List.take_succ_cons,szs,List.getD_cons_succ] at this ⊢
      omega
theorem szs_le (l : List Ty) : ∀ i,szs (l.take i) ≤ szs l:=by
  induction l with
  | nil=>intro i; simp [szs]
  | cons t l ih =>
    intro i
    cases i with
    | zero=>simp [szs]
    | succ i=>simp only [List.take_succ_cons,szs]; have:=ih i; omega
theorem szs_mem {t : Ty} {l : List Ty} (h : t ∈ l) : sz t ≤ szs l:=by
  induction l with
  | nil=>simp at h
  | cons u l ih =>
    rw [szs]
    rcases List.mem_cons.1 h with rfl | h
    · omega
    · have:=ih h; omega
theorem counts_take {l : List Ty} {i : Nat} (h : i < l.length) : counts (l.take (i + 1)) = counts (l.take i) + count (l.getD i ty0):=by
  induction l generalizing i with
  | nil=>simp at h
  | cons t l ih =>
    cases i with
    | zero=>simp [counts,List.getD]
    | succ i =>
      have:=ih (i:=i) (by simpa using h)
      simp only [List.take_succ_cons,counts,List.getD_cons_succ] at this ⊢
      omega
theorem wrap64 {n : Int} (h : -(2 ^ 63) ≤ n) (h' : n < 2 ^ 63) : IntKind.i64.wrap n = n:=by
  simp [IntKind.wrap,IntKind.signed,IntKind.bits]
  omega
def left (l : Int) (n : Nat) : Int:=if (n : Int) ≤ l then l - n else -1
def intOf : AV → Int
  | .int _ n=>n
  | _=>0
def SzT (τ : Ty) : Prop:=∀ (l : Int) (A : List Box),0 ≤ l → l ≤ 1048576 → ACalls Tryz.prog 138 [.agg (encA τ),.int .i64 l] A (fun v A'=>v = .int .i64 (left l (sz τ)) ∧ A' = A)
set_option maxRecDepth 100000 in
theorem laws_szTypeS (ks : List Ty) (hl : ks.length < 2 ^ 63) (hk : ∀ t ∈ ks,SzT t) (l : Int) (A : List Box) (h0 : 0 ≤ l) (h1 : l ≤ 1048576) :
    ACalls Tryz.prog 225 [.aslice (encAs ks),.int .i64 l] A (fun v A'=>v = .int .i64 (left l (ks.length + szs ks)) ∧ A' = A):=by
  have hw : IntKind.i64.wrap (l - ↑(encAs ks).length) = l - ks.length:=by rw [encAs_length]; exact wrap64 (by omega) (by omega)
  refine acalls_enter (cf:=cf 27 [0,1,4,5,11,15,25]) foll Tryz.func225 Tryz.ntmps225 (by simp [cf]) ?_
  simp only [Tryz.f225,EnterK_some,zW,zX,zD,builtinA,isLeaf,const1,ustrA,simprocAttr,ti3,ti23,ti25,ca138,cf,Tryz.results225]
  rw [hw]
  refine condK_intro (fun h=>?_) (fun h=>?_)
  · simp only [zW,zX,zD,builtinA,isLeaf,const1,ustrA,simprocAttr,ti3,ti23,ti25,ca138,cf,Tryz.results225]
    have : ¬ ((ks.length + szs ks : Nat) : Int) ≤ l:=by simp at h; omega
    rw [left,if_neg this]
  · simp only [zW,zX,zD,builtinA,isLeaf,const1,ustrA,simprocAttr,ti3,ti23,ti25,ca138,cf,Tryz.results225]
    refine aloop_intro [0,1,5] (fun e A'=>∃ i,i ≤ ks.length ∧ ((ks.length + szs (ks.take i) : Nat) : Int) ≤ l ∧ e = [(0,.aslice (encAs ks)),(1,.int .i64 (l - (ks.length + szs (ks.take i) : Nat))),(5,.int .i64 i)] ∧ A' = A) (fun e _=>ks.length - (intOf (Abs.look 5 e)).toNat) ?_ ?_
    · refine ⟨0,by omega,?_,?_,rfl⟩
      · simp at h; simp [szs]; omega
      · simp only [zW,zX,zD,builtinA,isLeaf,const1,ustrA,simprocAttr,ti3,ti23,ti25,ca138,cf,Tryz.results225]
        simp [szs]
    · rintro e A' ⟨i,hi,hle,rfl,rfl⟩
      simp only [zW,zX,zD,builtinA,isLeaf,const1,ustrA,simprocAttr,ti3,ti23,ti25,ca138,cf,Tryz.results225]
      refine condK_intro (fun h2=>?_) (fun h2=>?_)
      · have hi2 : i < ks.length:=by simp [encAs_length] at h2; exact h2
        have he:=encAs_getD hi2
        have hm:=getD_mem hi2
        have hs:=szs_take hi2
        simp only [zW,zX,zD,builtinA,isLeaf,const1,ustrA,simprocAttr,ti3,ti23,ti25,ca138,cf,Tryz.results225,he,encA_length,encA_take,encAs_length]
        refine ⟨⟨by omega,by omega⟩,?_⟩
        refine callK_intro (by simp only [zW,zX,zD,builtinA,isLeaf,const1,ustrA,simprocAttr,frzL_encA,Option.map_some]; rfl) (hk _ hm _ _ (by omega) (by omega)) ?_ rfl; rintro v A' ⟨rfl,rfl⟩
        by_cases hf : ((ks.length + szs (ks.take (i + 1)) : Nat) : Int) ≤ l
        · have hv : left (l - ((ks.length + szs (ks.take i) : Nat) : Int)) (sz (ks.getD i ty0)) = l - ((ks.length + szs (ks.take (i + 1)) : Nat) : Int):=by
            rw [left,if_pos (by omega)]; omega
          have hn : decide (l - ((ks.length + szs (ks.take (i + 1)) : Nat) : Int) < 0) = false:=by simp only [decide_eq_false_iff_not]; omega
          have hi1 : IntKind.i64.wrap ((i : Int) + 1) = ((i + 1 : Nat) : Int):=by rw [wrap64 (by omega) (by omega)]; rfl
          rw [hv]
          simp only [zW,zX,zD,builtinA,isLeaf,const1,ustrA,simprocAttr,ti3,ti23,ti25,ca138,cf,Tryz.results225,hn,hi1,LoopK_eq,encAs_length]
          refine ⟨⟨i + 1,by omega,hf,rfl⟩,?_⟩
          simp only [intOf]
          omega
        · have hv : left (l - ((ks.length + szs (ks.take i) : Nat) : Int)) (sz (ks.getD i ty0)) = -1:=by
            rw [left,if_neg (by omega)]
          have hz:=szs_le ks (i + 1)
          rw [hv,left,if_neg (by omega)]
          simp only [zW,zX,zD,builtinA,isLeaf,const1,ustrA,simprocAttr,ti3,ti23,ti25,ca138,cf,Tryz.results225]
      · simp only [zW,zX,zD,builtinA,isLeaf,const1,ustrA,simprocAttr,ti3,ti23,ti25,ca138,cf,Tryz.results225]
        have : i = ks.length:=by simp [encAs_length] at h2; omega
        subst this
        rw [List.take_length] at hle ⊢
        rw [left,if_pos hle]
set_option maxRecDepth 100000 in
theorem laws_szType (τ : Ty) (hτ : τ.Ok) : SzT τ:=by
  induction τ using Ty.ind with
  | h k m n ks ih =>
    obtain ⟨hm,hn,hks,hok⟩:=hτ
    intro l A h0 h1
    have hw : IntKind.i64.wrap (l - ↑m.length) = l - m.length:=wrap64 (by omega) (by omega)
    rw [encA]
    refine acalls_enter (cf:=cf 26 [0,1,2,4,11,18,24]) foll Tryz.func138 Tryz.ntmps138 (by simp [cf]) ?_
    simp only [Tryz.f138,EnterK_some,zW,zX,zD,builtinA,isLeaf,const1,ustrA,simprocAttr,ti3,ti9,ti23,ti25,ca225,cf,Tryz.results138]
    rw [hw]
    refine condK_intro (fun h=>?_) (fun h=>?_)
    · simp only [zW,zX,zD,builtinA,isLeaf,const1,ustrA,simprocAttr,ti3,ti9,ti23,ti25,ca225,cf,Tryz.results138]
      rw [left,if_neg (by rw [sz]; simp at h; omega)]
    · have hw2 : IntKind.i64.wrap (l - ↑m.length - ↑n.length) = l - ↑m.length - ↑n.length:=by simp at h; exact wrap64 (by omega) (by omega)
      simp only [zW,zX,zD,builtinA,isLeaf,const1,ustrA,simprocAttr,ti3,ti9,ti23,ti25,ca225,cf,Tryz.results138,hw2]
      refine condK_intro (fun h2=>?_) (fun h2=>?_)
      · simp only [zW,zX,zD,builtinA,isLeaf,const1,ustrA,simprocAttr,ti3,ti9,ti23,ti25,ca225,cf,Tryz.results138]
        rw [left,if_neg (by rw [sz]; simp at h2; omega)]
      · simp only [decide_eq_false_iff_not] at h h2
        simp only [zW,zX,zD,builtinA,isLeaf,const1,ustrA,simprocAttr,ti3,ti9,ti23,ti25,ca225,cf,Tryz.results138]
        refine callK_intro (by simp only [zW,zX,zD,builtinA,isLeaf,const1,ustrA,simprocAttr,Option.map_some]; rfl) (laws_szTypeS ks (by omega) (fun t ht=>ih t ht (hok t ht)) _ _ (by omega) (by omega)) ?_ rfl; rintro v A' ⟨rfl,rfl⟩
        by_cases hf : ((sz (.mk k m n ks) : Nat) : Int) ≤ l
        · have hv : left (l - ↑m.length - ↑n.length) (ks.length + szs ks) = l - sz (.mk k m n ks):=by
            rw [sz] at hf ⊢
            rw [left,if_pos (by omega)]; omega
          have hn : decide (l - sz (.mk k m n ks) < 0) = false:=by simp only [decide_eq_false_iff_not]; omega
          rw [hv,left,if_pos hf]
          simp only [zW,zX,zD,builtinA,isLeaf,const1,ustrA,simprocAttr,ti3,ti9,ti23,ti25,ca225,cf,Tryz.results138,hn]
        · have hv : left (l - ↑m.length - ↑n.length) (ks.length + szs ks) = -1:=by
            rw [sz] at hf
            rw [left,if_neg (by omega)]
          rw [hv,left,if_neg hf]
          simp only [zW,zX,zD,builtinA,isLeaf,const1,ustrA,simprocAttr,ti3,ti9,ti23,ti25,ca225,cf,Tryz.results138]
set_option maxRecDepth 100000 in
theorem laws_toTypeS (ks : List Ty) (hl : ks.length ≤ 1048576) (hk : ∀ t ∈ ks,∀ A,ACalls Tryz.prog 141 [.agg (encA t)] A (fun v A'=>v = .agg (enc t) ∧ A' = A)) (A : List Box) :
    ACalls Tryz.prog 226 [.aslice (encAs ks)] A (fun v A'=>v = .slice (encs ks) ∧ A' = A):=by
  have hl2 : ((encAs ks).length : Int) ≤ 1048576:=by rw [encAs_length]; omega
  refine acalls_enter (cf:=cf 23 [0,2,3,4,11]) foll Tryz.func226 Tryz.ntmps226 (by simp [cf]) ?_
  simp only [Tryz.f226,EnterK_some,zW,zX,zD,builtinA,isLeaf,const1,ustrA,simprocAttr,ti3,ti23,ti25,ti34,ti36,ca141,cf,Tryz.results226]
  refine ⟨⟨by omega,by omega,by omega⟩,?_⟩
  refine aloop_intro [0,3,4] (fun e A'=>∃ i,i ≤ ks.length ∧ e = [(0,.aslice (encAs ks)),(3,.own A.length),(4,.int .i64 i)] ∧ A' = A ++ [.row 4 (encs (ks.take i) ++ List.replicate (ks.length - i) zty) 0]) (fun e _=>ks.length - (intOf (Abs.look 4 e)).toNat) ?_ ?_
  · simp only [zW,zX,zD,builtinA,isLeaf,const1,ustrA,simprocAttr,ti3,ti23,ti25,ti34,ti36,ca141,cf,Tryz.results226]
    exact ⟨0,by omega,rfl,by rw [encAs_length]; simp [encs,zty]⟩
  · rintro e A' ⟨i,hi,rfl,rfl⟩
    simp only [zW,zX,zD,builtinA,isLeaf,const1,ustrA,simprocAttr,ti3,ti23,ti25,ti34,ti36,ca141,cf,Tryz.results226,encAs_length]
    refine condK_intro (fun h2=>?_) (fun h2=>?_)
    · have hi2 : i < ks.length:=by simpa using h2
      have he:=encAs_getD hi2
      have hm:=getD_mem hi2
      simp only [zW,zX,zD,builtinA,isLeaf,const1,ustrA,simprocAttr,ti3,ti23,ti25,ti34,ti36,ca141,cf,Tryz.results226,he,encA_length,encA_take,encAs_length]
      refine ⟨⟨by omega,by omega⟩,?_⟩
      refine callK_intro (by simp only [zW,zX,zD,builtinA,isLeaf,const1,ustrA,simprocAttr,frzL_encA,Option.map_some]; rfl) (hk _ hm _) ?_ rfl; rintro v A' ⟨rfl,rfl⟩
      have hi1 : IntKind.i64.wrap ((i : Int) + 1) = ((i + 1 : Nat) : Int):=by rw [wrap64 (by omega) (by omega)]; rfl
      simp only [zW,zX,zD,builtinA,isLeaf,const1,ustrA,simprocAttr,ti3,ti23,ti25,ti34,ti36,ca141,cf,Tryz.results226,enc_length,frzL_enc,row_step hi2,hi1,LoopK_eq]
      have hlen : (encs (List.take i ks)).length + (List.replicate (ks.length - i) zty).length = ks.length:=by
        simp [encs_length]; omega
      rw [hlen]
      refine ⟨⟨by omega,by omega⟩,⟨by omega,by omega,fun v hv=>enc_leaf _ v hv⟩,⟨i + 1,by omega,rfl,rfl⟩,?_⟩
      simp only [intOf]
      omega
    · simp only [zW,zX,zD,builtinA,isLeaf,const1,ustrA,simprocAttr,ti3,ti23,ti25,ti34,ti36,ca141,cf,Tryz.results226]
      have : i = ks.length:=by simp at h2; omega
      subst this
      simp [List.take_length]
set_option maxRecDepth 100000 in
theorem laws_toType (τ : Ty) (hτ : sz τ ≤ 1048576) : ∀ A,ACalls Tryz.prog 141 [.agg (encA τ)] A (fun v A'=>v = .agg (enc τ) ∧ A' = A):=by
  induction τ using Ty.ind with
  | h k m n ks ih =>
    intro A
    rw [encA,enc]
    have h1 : ks.length ≤ 1048576:=by rw [sz] at hτ; omega
    have h2 : ∀ t ∈ ks,sz t ≤ 1048576:=fun t ht=>by rw [sz] at hτ; have:=szs_mem ht; omega
    refine acalls_enter (cf:=cf 18 [0,1,2,3]) foll Tryz.func141 Tryz.ntmps141 (by simp [cf]) ?_
    simp only [Tryz.f141,EnterK_some,zW,zX,zD,builtinA,isLeaf,const1,ustrA,simprocAttr,ti3,ti9,ti23,ti25,ti34,ti36,ca226,cf,Tryz.results141]
    refine callK_intro (by simp only [zW,zX,zD,builtinA,isLeaf,const1,ustrA,simprocAttr,Option.map_some]; rfl) (laws_toTypeS ks h1 (fun t ht=>ih t ht (h2 t ht)) _) ?_ rfl; rintro v A' ⟨rfl,rfl⟩
    simp only [zW,zX,zD,builtinA,isLeaf,const1,ustrA,simprocAttr,ti3,ti9,ti23,ti25,ti34,ti36,ca226,cf,Tryz.results141]
set_option maxRecDepth 100000 in
theorem laws_eqTypeS (ks : List Ty) (hl : ks.length < 2 ^ 63) (hk : ∀ t ∈ ks,∀ A,ACalls Tryz.prog 149 [.agg (enc t),.agg (enc t)] A (fun v A'=>v = .bool true ∧ A' = A)) (A : List Box) :
    ACalls Tryz.prog 229 [.slice (encs ks),.slice (encs ks)] A (fun v A'=>v = .bool true ∧ A' = A):=by
  refine acalls_enter (cf:=cf 27 [0,1,4,5,10,14,26]) foll Tryz.func229 Tryz.ntmps229 (by simp [cf]) ?_
  simp only [Tryz.f229,EnterK_some,zW,zX,zD,builtinA,isLeaf,const1,ustrA,simprocAttr,ti3,ti34,ti36,ca149,cf,Tryz.results229]
  refine aloop_intro [0,1,5] (fun e A'=>∃ i,i ≤ ks.length ∧ e = [(0,.slice (encs ks)),(1,.slice (encs ks)),(5,.int .i64 i)] ∧ A' = A) (fun e _=>ks.length - (intOf (Abs.look 5 e)).toNat) ?_ ?_
  · simp only [zW,zX,zD,builtinA,isLeaf,const1,ustrA,simprocAttr,ti3,ti34,ti36,ca149,cf,Tryz.results229]
    exact ⟨0,by omega,rfl⟩
  · rintro e A' ⟨i,hi,rfl,rfl⟩
    simp only [zW,zX,zD,builtinA,isLeaf,const1,ustrA,simprocAttr,ti3,ti34,ti36,ca149,cf,Tryz.results229,encs_length]
    refine condK_intro (fun h2=>?_) (fun h2=>?_)
    · have hi2 : i < ks.length:=by simpa using h2
      have he:=encs_getD hi2
      have hm:=getD_mem hi2
      have hi1 : IntKind.i64.wrap ((i : Int) + 1) = ((i + 1 : Nat) : Int):=by rw [wrap64 (by omega) (by omega)]; rfl
      simp only [zW,zX,zD,builtinA,isLeaf,const1,ustrA,simprocAttr,ti3,ti34,ti36,ca149,cf,Tryz.results229,he,enc_length,enc_take,encs_length]
      refine .inl ⟨by kernel_rfl,by kernel_rfl,⟨by omega,by omega⟩,⟨by omega,by omega⟩,?_⟩
      refine callD_intro (by simp only [zW,zX,zD,builtinA,isLeaf,const1,ustrA,simprocAttr,frzL_enc,Option.map_some] <;> rfl) (hk _ hm _) ?_ rfl
      simp only [zW,zX,zD,builtinA,isLeaf,const1,ustrA,simprocAttr,ti3,ti34,ti36,ca149,cf,Tryz.results229,hi1,LoopK_eq]
      refine ⟨⟨i + 1,by omega,rfl⟩,?_⟩
      simp only [intOf]
      omega
    · simp only [zW,zX,zD,builtinA,isLeaf,const1,ustrA,simprocAttr,ti3,ti34,ti36,ca149,cf,Tryz.results229]
set_option maxRecDepth 100000 in
theorem laws_eqType (τ : Ty) (hτ : τ.Ok) : ∀ A,ACalls Tryz.prog 149 [.agg (enc τ),.agg (enc τ)] A (fun v A'=>v = .bool true ∧ A' = A):=by
  induction τ using Ty.ind with
  | h k m n ks ih =>
    intro A
    obtain ⟨hm,hn,hks,hok⟩:=hτ
    rw [enc]
    refine acalls_enter (cf:=cf 26 [0,1,2,3,4,9,14,19,25]) foll Tryz.func149 Tryz.ntmps149 (by simp [cf]) ?_
    simp only [Tryz.f149,EnterK_some,zW,zX,zD,builtinA,isLeaf,const1,ustrA,simprocAttr,ti3,ti9,ti34,ti36,ca229,cf,Tryz.results149]
    refine callK_intro (by simp only [zW,zX,zD,builtinA,isLeaf,const1,ustrA,simprocAttr,Option.map_some]; rfl) (laws_eqTypeS ks (by omega) (fun t ht=>ih t ht (hok t ht)) _) ?_ rfl; rintro v A' ⟨rfl,rfl⟩
    simp only [zW,zX,zD,builtinA,isLeaf,const1,ustrA,simprocAttr,ti3,ti9,ti34,ti36,ca229,cf,Tryz.results149]
def ownB (k : Int) (m n : List UInt8) : Bool:=if k = 3 then localB n && (decide (m = []) || moduleB m) else decide (n = []) && decide (m = [])
def kidsOf (k : Int) : Int:=if k = 1 then 0 else if k = 3 then 0 else if k = 2 then 2 else -1
mutual
def shape : Ty → Int → Bool
  | .mk k m n ks,d=>decide (1 ≤ d) && (decide (kidsOf k = ks.length) && ownB k m n) && shapes ks (d - 1)
def shapes : List Ty → Int → Bool
  | [],_=>true
  | t :: l,d=>shape t d && shapes l d
end
theorem shapes_take {l : List Ty} {i : Nat} (h : i < l.length) (d : Int) : shapes (l.take (i + 1)) d = (shapes (l.take i) d && shape (l.getD i ty0) d):=by
  induction l generalizing i with
  | nil=>simp at h
  | cons t l ih =>
    cases i with
    | zero=>simp [shapes,List.getD]
    | succ i =>
      have:=ih (i:=i) (by simpa using h)
      simp only [List.take_succ_cons,shapes,List.getD_cons_succ] at this ⊢
      rw [this,Bool.and_assoc]
theorem shapes_false {l : List Ty} {i : Nat} {d : Int} (h : i < l.length) (hs : shape (l.getD i ty0) d = false) : shapes l d = false:=by
  induction l generalizing i with
  | nil=>simp at h
  | cons t l ih =>
    rw [shapes]
    cases i with
    | zero=>have : shape t d = false:=hs; rw [this]; rfl
    | succ i=>rw [ih (i:=i) (by simpa using h) (by simpa using hs)]; simp
theorem counts_le (l : List Ty) : ∀ i,counts (l.take i) ≤ counts l:=by
  induction l with
  | nil=>intro i; simp [counts]
  | cons t l ih =>
    intro i
    cases i with
    | zero=>simp [counts]
    | succ i=>simp only [List.take_succ_cons,counts]; have:=ih i; omega
mutual
theorem count_sz : ∀ t,count t ≤ 1 + sz t
  | .mk k m n ks=>by rw [count,sz]; have:=counts_szs ks; omega
theorem counts_szs : ∀ l,counts l ≤ l.length + szs l
  | []=>by simp [counts]
  | t :: l=>by rw [counts,szs,List.length_cons]; have:=count_sz t; have:=counts_szs l; omega
end
set_option maxRecDepth 100000 in
theorem spec_l1Kids (k : Int) (A : List Box) : ACalls Tryz.prog 266 [.int .i64 k] A (fun v A'=>v = .int .i64 (kidsOf k) ∧ A' = A):=by
  refine acalls_enter (cf:=cf 9 [0,2,3,4,7]) foll Tryz.func266 Tryz.ntmps266 (by simp [cf]) ?_
  simp only [Tryz.f266,EnterK_some,zW,zX,zD,builtinA,isLeaf,const1,ustrA,simprocAttr,ti3,cf,Tryz.results266]
  repeat' first
    | (refine guardT_intro (fun h=>?_) (fun h=>?_) <;> (try simp only [decide_eq_true_eq,decide_eq_false_iff_not,Bool.not_eq_eq_eq_not,Bool.not_true,Bool.not_false] at h) <;> simp only [zW,zX,zD,builtinA,isLeaf,const1,ustrA,simprocAttr,ti3,cf,Tryz.results266,h])
    | (refine guardF_intro (fun h=>?_) (fun h=>?_) <;> (try simp only [decide_eq_true_eq,decide_eq_false_iff_not,Bool.not_eq_eq_eq_not,Bool.not_true,Bool.not_false] at h) <;> simp only [zW,zX,zD,builtinA,isLeaf,const1,ustrA,simprocAttr,ti3,cf,Tryz.results266,h])
    | (refine condK_intro (fun h=>?_) (fun h=>?_) <;> (try simp only [decide_eq_true_eq,decide_eq_false_iff_not,Bool.not_eq_eq_eq_not,Bool.not_true,Bool.not_false] at h) <;> simp only [zW,zX,zD,builtinA,isLeaf,const1,ustrA,simprocAttr,ti3,cf,Tryz.results266,h])
    | (refine guardDT_intro (fun h=>?_) (fun h=>?_) <;> (try simp only [decide_eq_true_eq,decide_eq_false_iff_not,Bool.not_eq_eq_eq_not,Bool.not_true,Bool.not_false] at h) <;> simp only [zW,zX,zD,builtinA,isLeaf,const1,ustrA,simprocAttr,ti3,cf,Tryz.results266,h])
    | (refine guardDF_intro (fun h=>?_) (fun h=>?_) <;> (try simp only [decide_eq_true_eq,decide_eq_false_iff_not,Bool.not_eq_eq_eq_not,Bool.not_true,Bool.not_false] at h) <;> simp only [zW,zX,zD,builtinA,isLeaf,const1,ustrA,simprocAttr,ti3,cf,Tryz.results266,h])
    | refine And.intro ?_ ?_
  · subst h; rfl
  · subst h; rfl
  · subst h; rfl
  · rw [kidsOf,if_neg ‹_›,if_neg ‹_›,if_neg ‹_›]
set_option maxRecDepth 100000 in
theorem spec_l1Own (k : Int) (m n : List UInt8) (ks : List (List AV)) (A : List Box) : ACalls Tryz.prog 267 [.agg [.int .i64 k,.str m,.str n,.slice ks]] A (fun v A'=>v = .bool (ownB k m n) ∧ A' = A):=by
  refine acalls_enter (cf:=cf 27 [0,1,2,5]) foll Tryz.func267 Tryz.ntmps267 (by simp [cf]) ?_
  simp only [Tryz.f267,EnterK_some,zW,zX,zD,builtinA,isLeaf,const1,ustrA,simprocAttr,ti3,ti9,ti36,ca104,ca245,cf,Tryz.results267]
  repeat' first
    | (refine guardT_intro (fun h=>?_) (fun h=>?_) <;> (try simp only [decide_eq_true_eq,decide_eq_false_iff_not,Bool.not_eq_eq_eq_not,Bool.not_true,Bool.not_false] at h) <;> simp only [zW,zX,zD,builtinA,isLeaf,const1,ustrA,simprocAttr,ti3,ti9,ti36,ca104,ca245,cf,Tryz.results267,h])
    | (refine guardF_intro (fun h=>?_) (fun h=>?_) <;> (try simp only [decide_eq_true_eq,decide_eq_false_iff_not,Bool.not_eq_eq_eq_not,Bool.not_true,Bool.not_false] at h) <;> simp only [zW,zX,zD,builtinA,isLeaf,const1,ustrA,simprocAttr,ti3,ti9,ti36,ca104,ca245,cf,Tryz.results267,h])
    | (refine condK_intro (fun h=>?_) (fun h=>?_) <;> (try simp only [decide_eq_true_eq,decide_eq_false_iff_not,Bool.not_eq_eq_eq_not,Bool.not_true,Bool.not_false] at h) <;> simp only [zW,zX,zD,builtinA,isLeaf,const1,ustrA,simprocAttr,ti3,ti9,ti36,ca104,ca245,cf,Tryz.results267,h])
    | (refine guardDT_intro (fun h=>?_) (fun h=>?_) <;> (try simp only [decide_eq_true_eq,decide_eq_false_iff_not,Bool.not_eq_eq_eq_not,Bool.not_true,Bool.not_false] at h) <;> simp only [zW,zX,zD,builtinA,isLeaf,const1,ustrA,simprocAttr,ti3,ti9,ti36,ca104,ca245,cf,Tryz.results267,h])
    | (refine guardDF_intro (fun h=>?_) (fun h=>?_) <;> (try simp only [decide_eq_true_eq,decide_eq_false_iff_not,Bool.not_eq_eq_eq_not,Bool.not_true,Bool.not_false] at h) <;> simp only [zW,zX,zD,builtinA,isLeaf,const1,ustrA,simprocAttr,ti3,ti9,ti36,ca104,ca245,cf,Tryz.results267,h])
    | refine And.intro ?_ ?_
  · subst h
    refine callK_intro (by simp only [zW,zX,zD,builtinA,isLeaf,const1,ustrA,simprocAttr]; rfl) (spec_LocalName _ _) ?_ rfl; rintro v A' ⟨rfl,rfl⟩
    rw [ownB,if_pos rfl]
    simp only [zW,zX,zD,builtinA,isLeaf,const1,ustrA,simprocAttr,ti3,ti9,ti36,ca104,ca245,cf,Tryz.results267]
    repeat' first
      | (refine guardT_intro (fun h=>?_) (fun h=>?_) <;> (try simp only [decide_eq_true_eq,decide_eq_false_iff_not,Bool.not_eq_eq_eq_not,Bool.not_true,Bool.not_false] at h) <;> simp only [zW,zX,zD,builtinA,isLeaf,const1,ustrA,simprocAttr,ti3,ti9,ti36,ca104,ca245,cf,Tryz.results267,h])
      | (refine guardF_intro (fun h=>?_) (fun h=>?_) <;> (try simp only [decide_eq_true_eq,decide_eq_false_iff_not,Bool.not_eq_eq_eq_not,Bool.not_true,Bool.not_false] at h) <;> simp only [zW,zX,zD,builtinA,isLeaf,const1,ustrA,simprocAttr,ti3,ti9,ti36,ca104,ca245,cf,Tryz.results267,h])
      | (refine condK_intro (fun h=>?_) (fun h=>?_) <;> (try simp only [decide_eq_true_eq,decide_eq_false_iff_not,Bool.not_eq_eq_eq_not,Bool.not_true,Bool.not_false] at h) <;> simp only [zW,zX,zD,builtinA,isLeaf,const1,ustrA,simprocAttr,ti3,ti9,ti36,ca104,ca245,cf,Tryz.results267,h])
      | (refine guardDT_intro (fun h=>?_) (fun h=>?_) <;> (try simp only [decide_eq_true_eq,decide_eq_false_iff_not,Bool.not_eq_eq_eq_not,Bool.not_true,Bool.not_false] at h) <;> simp only [zW,zX,zD,builtinA,isLeaf,const1,ustrA,simprocAttr,ti3,ti9,ti36,ca104,ca245,cf,Tryz.results267,h])
      | (refine guardDF_intro (fun h=>?_) (fun h=>?_) <;> (try simp only [decide_eq_true_eq,decide_eq_false_iff_not,Bool.not_eq_eq_eq_not,Bool.not_true,Bool.not_false] at h) <;> simp only [zW,zX,zD,builtinA,isLeaf,const1,ustrA,simprocAttr,ti3,ti9,ti36,ca104,ca245,cf,Tryz.results267,h])
      | refine And.intro ?_ ?_
    · refine callK_intro (by simp only [zW,zX,zD,builtinA,isLeaf,const1,ustrA,simprocAttr]; rfl) (spec_ModuleName _ _) ?_ rfl; rintro v A' ⟨rfl,rfl⟩
      simp only [zW,zX,zD,builtinA,isLeaf,const1,ustrA,simprocAttr,ti3,ti9,ti36,ca104,ca245,cf,Tryz.results267]
  · subst h; rw [ownB,if_neg ‹_›]; simp
  · rw [ownB,if_neg ‹_›]; simp [h]
set_option maxRecDepth 100000 in
theorem spec_l1Shape (τ : Ty) (hτ : τ.Ok) : ∀ (d : Int) (A : List Box),-1000 ≤ d → d ≤ 1000 → ACalls Tryz.prog 206 [.agg (enc τ),.int .i64 d] A (fun v A'=>v = .bool (shape τ d) ∧ A' = A):=by
  induction τ using Ty.ind with
  | h k m n ks ih =>
    intro d A h0 h1
    obtain ⟨hm,hn,hks,hok⟩:=hτ
    rw [enc,shape]
    refine acalls_enter (cf:=cf 38 [0,1,2,4,5,21,26,37]) foll Tryz.func206 Tryz.ntmps206 (by simp [cf]) ?_
    simp only [Tryz.f206,EnterK_some,zW,zX,zD,builtinA,isLeaf,const1,ustrA,simprocAttr,ti3,ti34,ti36,ca206,ca266,ca267,cf,Tryz.results206]
    refine .inl ⟨by kernel_rfl,by kernel_rfl,?_⟩
    by_cases hd : d < 1
    · simp only [decide_eq_true hd]
      simp only [zW,zX,zD,builtinA,isLeaf,const1,ustrA,simprocAttr,ti3,ti34,ti36,ca206,ca266,ca267,cf,Tryz.results206]
      rw [decide_eq_false (show ¬ (1 : Int) ≤ d by omega)]
      rfl
    · simp only [decide_eq_false hd]
      simp only [zW,zX,zD,builtinA,isLeaf,const1,ustrA,simprocAttr,ti3,ti34,ti36,ca206,ca266,ca267,cf,Tryz.results206]
      refine callD_intro (by simp only [zW,zX,zD,builtinA,isLeaf,const1,ustrA,simprocAttr,Option.map_some] <;> rfl) (spec_l1Kids k _) ?_ rfl
      rw [decide_eq_true (show (1 : Int) ≤ d by omega)]
      by_cases hk : kidsOf k = ks.length
      · simp only [zW,zX,zD,builtinA,isLeaf,const1,ustrA,simprocAttr,ti3,ti34,ti36,ca206,ca266,ca267,cf,Tryz.results206,encs_length,decide_eq_true hk]
        refine callD_intro (by simp only [zW,zX,zD,builtinA,isLeaf,const1,ustrA,simprocAttr,Option.map_some] <;> rfl) (spec_l1Own k m n _ _) ?_ rfl
        by_cases ho : ownB k m n = true
        · simp only [zW,zX,zD,builtinA,isLeaf,const1,ustrA,simprocAttr,ti3,ti34,ti36,ca206,ca266,ca267,cf,Tryz.results206,ho]
          have hw : IntKind.i64.wrap (d - 1) = d - 1:=wrap64 (by omega) (by omega)
          refine aloop_intro [1,2,5] (fun e A'=>∃ i,i ≤ ks.length ∧ shapes (ks.take i) (d - 1) = true ∧ e = [(1,.int .i64 d),(2,.ptr A.length 0),(5,.int .i64 i)] ∧ A' = A ++ [.cells [.int .i64 k,.str m,.str n,.slice (encs ks)]]) (fun e _=>ks.length - (intOf (Abs.look 5 e)).toNat) ?_ ?_
          · simp only [zW,zX,zD,builtinA,isLeaf,const1,ustrA,simprocAttr,ti3,ti34,ti36,ca206,ca266,ca267,cf,Tryz.results206]
            exact ⟨0,by omega,by simp [shapes],rfl⟩
          · rintro e A' ⟨i,hi,hsh,rfl,rfl⟩
            simp only [zW,zX,zD,builtinA,isLeaf,const1,ustrA,simprocAttr,ti3,ti34,ti36,ca206,ca266,ca267,cf,Tryz.results206,encs_length]
            refine condK_intro (fun h2=>?_) (fun h2=>?_)
            · have hi2 : i < ks.length:=by simpa using h2
              have he:=encs_getD hi2
              have hmm:=getD_mem hi2
              have hi1 : IntKind.i64.wrap ((i : Int) + 1) = ((i + 1 : Nat) : Int):=by rw [wrap64 (by omega) (by omega)]; rfl
              have hst:=shapes_take hi2 (d - 1)
              simp only [zW,zX,zD,builtinA,isLeaf,const1,ustrA,simprocAttr,ti3,ti34,ti36,ca206,ca266,ca267,cf,Tryz.results206,he,enc_length,enc_take,encs_length,hw]
              refine ⟨⟨by omega,by omega⟩,?_⟩
              refine callK_intro (by simp only [zW,zX,zD,builtinA,isLeaf,const1,ustrA,simprocAttr,frzL_enc,Option.map_some]; rfl) (ih _ hmm (hok _ hmm) _ _ (by omega) (by omega)) ?_ rfl; rintro v A' ⟨rfl,rfl⟩
              cases hs : shape (ks.getD i ty0) (d - 1) with
              | true =>
                rw [hsh,hs] at hst
                simp only [zW,zX,zD,builtinA,isLeaf,const1,ustrA,simprocAttr,ti3,ti34,ti36,ca206,ca266,ca267,cf,Tryz.results206,hi1,LoopK_eq]
                refine ⟨⟨i + 1,by omega,hst,rfl⟩,?_⟩
                simp only [intOf]
                omega
              | false =>
                simp only [zW,zX,zD,builtinA,isLeaf,const1,ustrA,simprocAttr,ti3,ti34,ti36,ca206,ca266,ca267,cf,Tryz.results206]
                rw [shapes_false hi2 hs]
            · simp only [zW,zX,zD,builtinA,isLeaf,const1,ustrA,simprocAttr,ti3,ti34,ti36,ca206,ca266,ca267,cf,Tryz.results206]
              have : i = ks.length:=by simp at h2; omega
              subst this
              rw [List.take_length] at hsh
              rw [hsh]
        · simp only [zW,zX,zD,builtinA,isLeaf,const1,ustrA,simprocAttr,ti3,ti34,ti36,ca206,ca266,ca267,cf,Tryz.results206,ho]
      · simp only [zW,zX,zD,builtinA,isLeaf,const1,ustrA,simprocAttr,ti3,ti34,ti36,ca206,ca266,ca267,cf,Tryz.results206,encs_length,decide_eq_false hk]
set_option maxRecDepth 100000 in
theorem spec_l1Count (τ : Ty) (hτ : τ.Ok) (hc : sz τ ≤ 1048576) : ∀ (A : List Box),ACalls Tryz.prog 207 [.agg (enc τ)] A (fun v A'=>v = .int .i64 (count τ) ∧ A' = A):=by
  induction τ using Ty.ind with
  | h k m n ks ih =>
    intro A
    obtain ⟨hm,hn,hks,hok⟩:=hτ
    have hcs:=count_sz (.mk k m n ks)
    rw [enc]
    refine acalls_enter (cf:=cf 21 [0,1,2,3,4,9]) foll Tryz.func207 Tryz.ntmps207 (by simp [cf]) ?_
    simp only [Tryz.f207,EnterK_some,zW,zX,zD,builtinA,isLeaf,const1,ustrA,simprocAttr,ti3,ti34,ti36,ca207,cf,Tryz.results207]
    refine aloop_intro [1,3,4] (fun e A'=>∃ i,i ≤ ks.length ∧ e = [(1,.ptr A.length 0),(3,.int .i64 (1 + counts (ks.take i) : Nat)),(4,.int .i64 i)] ∧ A' = A ++ [.cells [.int .i64 k,.str m,.str n,.slice (encs ks)]]) (fun e _=>ks.length - (intOf (Abs.look 4 e)).toNat) ?_ ?_
    · simp only [zW,zX,zD,builtinA,isLeaf,const1,ustrA,simprocAttr,ti3,ti34,ti36,ca207,cf,Tryz.results207]
      exact ⟨0,by omega,by simp [counts]⟩
    · rintro e A' ⟨i,hi,rfl,rfl⟩
      simp only [zW,zX,zD,builtinA,isLeaf,const1,ustrA,simprocAttr,ti3,ti34,ti36,ca207,cf,Tryz.results207,encs_length]
      refine condK_intro (fun h2=>?_) (fun h2=>?_)
      · have hi2 : i < ks.length:=by simpa using h2
        have he:=encs_getD hi2
        have hmm:=getD_mem hi2
        have hi1 : IntKind.i64.wrap ((i : Int) + 1) = ((i + 1 : Nat) : Int):=by rw [wrap64 (by omega) (by omega)]; rfl
        have hct:=counts_take hi2
        have hcl:=counts_le ks (i + 1)
        have hc1 : count (.mk k m n ks) = 1 + counts ks:=by rw [count]
        have hw : IntKind.i64.wrap (((1 + counts (ks.take i) : Nat) : Int) + (count (ks.getD i ty0) : Int)) = ((1 + counts (ks.take (i + 1)) : Nat) : Int):=by
          rw [wrap64 (by omega) (by omega)]; omega
        have hsz : sz (ks.getD i ty0) ≤ 1048576:=by have:=szs_mem hmm; rw [sz] at hc; omega
        simp only [zW,zX,zD,builtinA,isLeaf,const1,ustrA,simprocAttr,ti3,ti34,ti36,ca207,cf,Tryz.results207,he,enc_length,enc_take,encs_length]
        refine ⟨⟨by omega,by omega⟩,?_⟩
        refine callK_intro (by simp only [zW,zX,zD,builtinA,isLeaf,const1,ustrA,simprocAttr,frzL_enc,Option.map_some]; rfl) (ih _ hmm (hok _ hmm) hsz _) ?_ rfl; rintro v A' ⟨rfl,rfl⟩
        simp only [zW,zX,zD,builtinA,isLeaf,const1,ustrA,simprocAttr,ti3,ti34,ti36,ca207,cf,Tryz.results207,hi1,hw,LoopK_eq]
        refine ⟨⟨i + 1,by omega,rfl⟩,?_⟩
        simp only [intOf]
        omega
      · simp only [zW,zX,zD,builtinA,isLeaf,const1,ustrA,simprocAttr,ti3,ti34,ti36,ca207,cf,Tryz.results207]
        have : i = ks.length:=by simp at h2; omega
        subst this
        rw [List.take_length,count]
def validB (τ : Ty) : Bool:=shape τ 8 && decide (count τ ≤ 63)
set_option maxRecDepth 100000 in
theorem spec_TypeValid (τ : Ty) (hτ : τ.Ok) (hc : sz τ ≤ 1048576) (A : List Box) : ACalls Tryz.prog 121 [.agg (enc τ)] A (fun v A'=>v = .bool (validB τ) ∧ A' = A):=by
  refine acalls_enter (cf:=cf 10 [0,1,2]) foll Tryz.func121 Tryz.ntmps121 (by simp [cf]) ?_
  simp only [Tryz.f121,EnterK_some,zW,zX,zD,builtinA,isLeaf,const1,ustrA,simprocAttr,ti3,ti36,ca206,ca207,cf,Tryz.results121]
  simp only [enc_take]
  refine ⟨by rw [enc_length]; omega,?_⟩
  refine callK_intro (by simp only [zW,zX,zD,builtinA,isLeaf,const1,ustrA,simprocAttr,frzL_enc,Option.map_some]; rfl) (spec_l1Shape τ hτ _ _ (by omega) (by omega)) ?_ rfl; rintro v A' ⟨rfl,rfl⟩
  rw [validB]
  cases hs : shape τ 8 with
  | true =>
    simp only [zW,zX,zD,builtinA,isLeaf,const1,ustrA,simprocAttr,ti3,ti36,ca206,ca207,cf,Tryz.results121,enc_take]
    refine ⟨by rw [enc_length]; omega,?_⟩
    refine callK_intro (by simp only [zW,zX,zD,builtinA,isLeaf,const1,ustrA,simprocAttr,frzL_enc,Option.map_some]; rfl) (spec_l1Count τ hτ hc _) ?_ rfl; rintro v A' ⟨rfl,rfl⟩
    simp only [zW,zX,zD,builtinA,isLeaf,const1,ustrA,simprocAttr,ti3,ti36,ca206,ca207,cf,Tryz.results121]
    simp
    omega
  | false =>
    simp only [zW,zX,zD,builtinA,isLeaf,const1,ustrA,simprocAttr,ti3,ti36,ca206,ca207,cf,Tryz.results121]
end Go.Proofs.YtnjdbgiincliaaaGreat
/- Items of signatures as data. -/
set_option linter.unusedVariables false
set_option linter.unusedSimpArgs false
namespace Go.Proofs.YtnjdbgiincliaaaGreat
open Go.Abs
structure SigI where
  kind : Int
  name : List UInt8
  typ : Ty
def si0 : SigI:=⟨0,[],ty0⟩
def sE (x : SigI) : List AV:=.int .i64 x.kind :: .str x.name :: enc x.typ
def sEA (x : SigI) : List AV:=.int .i64 x.kind :: .str x.name :: encA x.typ
def sEs (l : List SigI) : List (List AV):=l.map sE
def sEAs (l : List SigI) : List (List AV):=l.map sEA
def szI (x : SigI) : Nat:=x.name.length + sz x.typ
def szIs (l : List SigI) : Nat:=(l.map szI).sum
def SigI.Ok (x : SigI) : Prop:=x.name.length < 2 ^ 63 ∧ x.typ.Ok
def zsi : List AV:=[.int .i64 0,.str [],.int .i64 0,.str [],.str [],.slice []]
theorem sE_length (x : SigI) : (sE x).length = 6:=by simp [sE,enc_length]
theorem sEA_length (x : SigI) : (sEA x).length = 6:=by simp [sEA,encA_length]
theorem sE_take (x : SigI) : List.take 6 (sE x) = sE x:=List.take_of_length_le (by rw [sE_length]; exact Nat.le_refl _)
theorem sEA_take (x : SigI) : List.take 6 (sEA x) = sEA x:=List.take_of_length_le (by rw [sEA_length]; exact Nat.le_refl _)
theorem sE_leaf (x : SigI) : ∀ v ∈ sE x,isLeaf v = true:=by
  intro v hv
  simp only [sE,List.mem_cons] at hv
  rcases hv with rfl | rfl | hv
  · rfl
  · rfl
  · exact enc_leaf _ v hv
theorem frzL_leaf : ∀ (l : List AV) (A : List Box),(∀ v ∈ l,isLeaf v = true) → frzL l A = some (l,A)
  | [],A,_=>rfl
  | v :: l,A,h=>by
    have h1 : frz1 v A = some (v,A):=by
      have:=h v (by simp)
      cases v <;> simp [isLeaf] at this <;> rfl
    simp only [frzL,h1,frzL_leaf l A fun x hx=>h x (by simp [hx])]
theorem frzL_sE (x : SigI) (A : List Box) : frzL (sE x) A = some (sE x,A):=frzL_leaf _ _ (sE_leaf x)
theorem sEA_leaf (x : SigI) : ∀ v ∈ sEA x,isLeaf v = true:=by
  intro v hv
  simp only [sEA,List.mem_cons] at hv
  rcases hv with rfl | rfl | hv
  · rfl
  · rfl
  · cases ht : x.typ with
    | mk k m n ks =>
      rw [ht,encA] at hv
      simp at hv
      rcases hv with rfl | rfl | rfl | rfl <;> rfl
theorem frzL_sEA (x : SigI) (A : List Box) : frzL (sEA x) A = some (sEA x,A):=frzL_leaf _ _ (sEA_leaf x)
theorem sEs_length (l : List SigI) : (sEs l).length = l.length:=by simp [sEs]
theorem sEAs_length (l : List SigI) : (sEAs l).length = l.length:=by simp [sEAs]
theorem sEs_getD {l : List SigI} {i : Nat} (h : i < l.length) : (sEs l).getD i [] = sE (l.getD i si0):=by simp [sEs,List.getD,h]
theorem sEAs_getD {l : List SigI} {i : Nat} (h : i < l.length) : (sEAs l).getD i [] = sEA (l.getD i si0):=by simp [sEAs,List.getD,h]
theorem si_mem {l : List SigI} {i : Nat} (h : i < l.length) : l.getD i si0 ∈ l:=by simp [List.getD,h]
theorem si_take {l : List SigI} {i : Nat} (h : i < l.length) : l.take (i + 1) = l.take i ++ [l.getD i si0]:=by
  rw [List.take_add_one]; simp [List.getD,h]
theorem szIs_take {l : List SigI} {i : Nat} (h : i < l.length) : szIs (l.take (i + 1)) = szIs (l.take i) + szI (l.getD i si0):=by
  rw [si_take h]; simp [szIs]
theorem szIs_le (l : List SigI) (i : Nat) : szIs (l.take i) ≤ szIs l:=by
  have h : szIs l = szIs (l.take i) + szIs (l.drop i):=by
    conv=>lhs; rw [← List.take_append_drop i l]
    simp only [szIs,List.map_append,List.sum_append]
  omega
theorem szIs_mem {x : SigI} {l : List SigI} (h : x ∈ l) : szI x ≤ szIs l:=by
  induction l with
  | nil=>simp at h
  | cons y l ih =>
    simp only [szIs,List.map_cons,List.sum_cons] at ih ⊢
    rcases List.mem_cons.1 h with rfl | h
    · omega
    · have:=ih h; omega
theorem encCl (n : Nat) (t : Ty) : (enc t).all (closed1 n) = true:=List.all_eq_true.2 fun x hx=>leaf_closed1 (enc_leaf t x hx)
theorem encD (t : Ty) : List.drop 4 (enc t) = []:=List.drop_of_length_le (by rw [enc_length]; exact Nat.le_refl _)
end Go.Proofs.YtnjdbgiincliaaaGreat
/- Types as trees: what the program's own functions read of them. -/
set_option linter.unusedVariables false
set_option linter.unusedSimpArgs false
namespace Go.Proofs.YtnjdbgiincliaaaGreat
open Go.Abs
def ifA : Option (TypeId × AV) → AV
  | none=>.nili
  | some (t,x)=>.iface t x
def pairUp : List (Option (TypeId × AV) × Bool) → Option (TypeId × AV) × Bool
  | [(x,true),(y,ok)]=>(some (422,.agg [ifA x,ifA y]),ok)
  | _=>(none,false)
mutual
def readO : Ty → Int → Option (TypeId × AV) × Bool
  | .mk k m n ks,d =>
    if 8 < d then (none,false)
    else if k = 1 then (some (369,.agg []),(decide (m = []) && decide (n = [])) && decide ((ks.length : Int) = 0))
    else if k = 2 then (if m = [] then if n = [] then pairUp (readOs ks (d + 1)) else (none,false) else (none,false))
    else if k = 3 then (some (180,.agg [.str m,.str n]),((decide (m = []) || moduleB m) && localB n) && decide ((ks.length : Int) = 0))
    else (none,false)
def readOs : List Ty → Int → List (Option (TypeId × AV) × Bool)
  | [],_=>[]
  | t :: l,d=>readO t d :: readOs l d
end
theorem readOs_length (l : List Ty) (d : Int) : (readOs l d).length = l.length:=by
  induction l with
  | nil=>rfl
  | cons t l ih=>rw [readOs,List.length_cons,ih,List.length_cons]
theorem pairUp_no {l : List (Option (TypeId × AV) × Bool)} (h : ¬ (l.length : Int) = 2) : pairUp l = (none,false):=by
  match l,h with
  | [],_=>rfl
  | [_],_=>simp [pairUp]
  | [_,_],h=>exact absurd rfl h
  | _ :: _ :: _ :: _,_=>simp [pairUp]
def ReadT (t : Ty) : Prop:=∀ (d : Int) (A : List Box),0 ≤ d → d ≤ 9 → ACalls Tryz.prog 198 [.agg (enc t),.int .i64 d] A (fun v A'=>v = .tuple [ifA (readO t d).1,.bool (readO t d).2] ∧ A' = A)
set_option maxRecDepth 100000 in
theorem impl_readFun (m n : List UInt8) (ks : List Ty) (d : Int) (h0 : 0 ≤ d) (h1 : d ≤ 8) (hk : ∀ t ∈ ks,ReadT t) (A : List Box) :
    ACalls Tryz.prog 260 [.agg (enc (.mk 2 m n ks)),.int .i64 d] A (fun v A'=>v = .tuple [ifA (readO (.mk 2 m n ks) d).1,.bool (readO (.mk 2 m n ks) d).2] ∧ A' = A):=by
  have hw : IntKind.i64.wrap (d + 1) = d + 1:=wrap64 (by omega) (by omega)
  have hl : ((encs ks).length : Int) = ks.length:=by rw [encs_length]
  rw [enc,readO,if_neg (by omega),if_neg (by omega),if_pos rfl]
  refine acalls_enter (cf:=cf 50 [0,1,2,4,5,6,7,8,22,34]) foll Tryz.func260 Tryz.ntmps260 (by simp [cf]) ?_
  simp only [Tryz.f260,EnterK_some,zW,zX,zD,builtinA,isLeaf,const1,Nat.reduceAdd,Nat.reduceMul,Nat.reduceSub,Nat.reduceLT,Nat.reduceLeDiff,Nat.reduceEqDiff,Nat.reduceBEq,Nat.reduceBNe,reduceIte,reduceCtorEq,Int.reduceToNat,Int.reduceLT,Int.reduceLE,Int.reduceEq,Int.reduceNe,Int.reduceNeg,ustrA,ti3,ti9,ti34,ti36,ti422,ca198,cf,Tryz.results260]
  by_cases hm : m = []
  · rw [if_pos hm]
    by_cases hn : n = []
    · rw [if_pos hn]
      by_cases h2 : (ks.length : Int) = 2
      · match ks,h2,hk with
        | [a,b],_,hk =>
          have ha:=hk a (by simp)
          have hb:=hk b (by simp)
          clear hl
          simp only [encs]
          have h22 : decide (((2 : Nat) : Int) = 2) = true:=rfl
          simp only [zW,zX,zD,builtinA,isLeaf,const1,Nat.reduceAdd,Nat.reduceMul,Nat.reduceSub,Nat.reduceLT,Nat.reduceLeDiff,Nat.reduceEqDiff,Nat.reduceBEq,Nat.reduceBNe,reduceIte,reduceCtorEq,Int.reduceToNat,Int.reduceLT,Int.reduceLE,Int.reduceEq,Int.reduceNe,Int.reduceNeg,ustrA,ti3,ti9,ti34,ti36,ti422,ca198,cf,Tryz.results260,decide_eq_true hm,decide_eq_true hn,h22,Bool.not_true,enc_length,enc_take,hw]
          refine ⟨by decide,?_⟩
          refine callK_intro (by simp only [zW,zX,zD,builtinA,isLeaf,const1,Nat.reduceAdd,Nat.reduceMul,Nat.reduceSub,Nat.reduceLT,Nat.reduceLeDiff,Nat.reduceEqDiff,Nat.reduceBEq,Nat.reduceBNe,reduceIte,reduceCtorEq,Int.reduceToNat,Int.reduceLT,Int.reduceLE,Int.reduceEq,Int.reduceNe,Int.reduceNeg,ustrA,frzL_enc,Option.map_some,hw]; rfl) (ha _ _ (by omega) (by omega)) ?_ rfl; rintro v A' ⟨rfl,rfl⟩
          rw [readOs,readOs,readOs]
          rcases readO a (d + 1) with ⟨x,_ | _⟩
          · simp only [zW,zX,zD,builtinA,isLeaf,const1,Nat.reduceAdd,Nat.reduceMul,Nat.reduceSub,Nat.reduceLT,Nat.reduceLeDiff,Nat.reduceEqDiff,Nat.reduceBEq,Nat.reduceBNe,reduceIte,reduceCtorEq,Int.reduceToNat,Int.reduceLT,Int.reduceLE,Int.reduceEq,Int.reduceNe,Int.reduceNeg,ustrA,ti3,ti9,ti34,ti36,ti422,ca198,cf,Tryz.results260,pairUp,ifA]
          · simp only [zW,zX,zD,builtinA,isLeaf,const1,Nat.reduceAdd,Nat.reduceMul,Nat.reduceSub,Nat.reduceLT,Nat.reduceLeDiff,Nat.reduceEqDiff,Nat.reduceBEq,Nat.reduceBNe,reduceIte,reduceCtorEq,Int.reduceToNat,Int.reduceLT,Int.reduceLE,Int.reduceEq,Int.reduceNe,Int.reduceNeg,ustrA,ti3,ti9,ti34,ti36,ti422,ca198,cf,Tryz.results260,enc_length,enc_take,hw]
            refine ⟨by decide,?_⟩
            refine callK_intro (by simp only [zW,zX,zD,builtinA,isLeaf,const1,Nat.reduceAdd,Nat.reduceMul,Nat.reduceSub,Nat.reduceLT,Nat.reduceLeDiff,Nat.reduceEqDiff,Nat.reduceBEq,Nat.reduceBNe,reduceIte,reduceCtorEq,Int.reduceToNat,Int.reduceLT,Int.reduceLE,Int.reduceEq,Int.reduceNe,Int.reduceNeg,ustrA,frzL_enc,Option.map_some,hw]; rfl) (hb _ _ (by omega) (by omega)) ?_ rfl; rintro v A' ⟨rfl,rfl⟩
            rcases x with _ | ⟨t1,x1⟩ <;> rcases readO b (d + 1) with ⟨_ | ⟨t2,x2⟩,ok⟩ <;> simp only [ifA,pairUp] <;> simp only [zW,zX,zD,builtinA,isLeaf,const1,Nat.reduceAdd,Nat.reduceMul,Nat.reduceSub,Nat.reduceLT,Nat.reduceLeDiff,Nat.reduceEqDiff,Nat.reduceBEq,Nat.reduceBNe,reduceIte,reduceCtorEq,Int.reduceToNat,Int.reduceLT,Int.reduceLE,Int.reduceEq,Int.reduceNe,Int.reduceNeg,ustrA,ti3,ti9,ti34,ti36,ti422,ca198,cf,Tryz.results260]
      · rw [pairUp_no (by rw [readOs_length]; exact h2)]
        simp only [zW,zX,zD,builtinA,isLeaf,const1,Nat.reduceAdd,Nat.reduceMul,Nat.reduceSub,Nat.reduceLT,Nat.reduceLeDiff,Nat.reduceEqDiff,Nat.reduceBEq,Nat.reduceBNe,reduceIte,reduceCtorEq,Int.reduceToNat,Int.reduceLT,Int.reduceLE,Int.reduceEq,Int.reduceNe,Int.reduceNeg,ustrA,ti3,ti9,ti34,ti36,ti422,ca198,cf,Tryz.results260,hl,decide_eq_true hm,decide_eq_true hn,decide_eq_false h2,Bool.not_true,Bool.not_false,ifA]
    · rw [if_neg hn]
      simp only [zW,zX,zD,builtinA,isLeaf,const1,Nat.reduceAdd,Nat.reduceMul,Nat.reduceSub,Nat.reduceLT,Nat.reduceLeDiff,Nat.reduceEqDiff,Nat.reduceBEq,Nat.reduceBNe,reduceIte,reduceCtorEq,Int.reduceToNat,Int.reduceLT,Int.reduceLE,Int.reduceEq,Int.reduceNe,Int.reduceNeg,ustrA,ti3,ti9,ti34,ti36,ti422,ca198,cf,Tryz.results260,decide_eq_true hm,decide_eq_false hn,Bool.not_true,Bool.not_false,ifA]
  · rw [if_neg hm]
    simp only [zW,zX,zD,builtinA,isLeaf,const1,Nat.reduceAdd,Nat.reduceMul,Nat.reduceSub,Nat.reduceLT,Nat.reduceLeDiff,Nat.reduceEqDiff,Nat.reduceBEq,Nat.reduceBNe,reduceIte,reduceCtorEq,Int.reduceToNat,Int.reduceLT,Int.reduceLE,Int.reduceEq,Int.reduceNe,Int.reduceNeg,ustrA,ti3,ti9,ti34,ti36,ti422,ca198,cf,Tryz.results260,decide_eq_false hm,Bool.not_false,ifA]
set_option maxRecDepth 100000 in
theorem impl_readNode (τ : Ty) : ReadT τ:=by
  induction τ using Ty.ind with
  | h k m n ks ih =>
    intro d A h0 h1
    have hl : ((encs ks).length : Int) = ks.length:=by rw [encs_length]
    rw [enc]
    refine acalls_enter (cf:=cf 54 [0,1,2,4,5,7,9,10,28,35]) foll Tryz.func198 Tryz.ntmps198 (by simp [cf]) ?_
    simp only [Tryz.f198,EnterK_some,zW,zX,zD,builtinA,isLeaf,const1,Nat.reduceAdd,Nat.reduceMul,Nat.reduceSub,Nat.reduceLT,Nat.reduceLeDiff,Nat.reduceEqDiff,Nat.reduceBEq,Nat.reduceBNe,reduceIte,reduceCtorEq,Int.reduceToNat,Int.reduceLT,Int.reduceLE,Int.reduceEq,Int.reduceNe,Int.reduceNeg,ustrA,ti3,ti9,ti34,ti36,ti180,ti369,ca260,ca261,cf,Tryz.results198]
    by_cases h8 : 8 < d
    · rw [readO,if_pos h8]
      simp only [zW,zX,zD,builtinA,isLeaf,const1,Nat.reduceAdd,Nat.reduceMul,Nat.reduceSub,Nat.reduceLT,Nat.reduceLeDiff,Nat.reduceEqDiff,Nat.reduceBEq,Nat.reduceBNe,reduceIte,reduceCtorEq,Int.reduceToNat,Int.reduceLT,Int.reduceLE,Int.reduceEq,Int.reduceNe,Int.reduceNeg,ustrA,ti3,ti9,ti34,ti36,ti180,ti369,ca260,ca261,cf,Tryz.results198,decide_eq_true h8,ifA]
    · by_cases k1 : k = 1
      · rw [readO,if_neg h8,if_pos k1]
        simp only [zW,zX,zD,builtinA,isLeaf,const1,Nat.reduceAdd,Nat.reduceMul,Nat.reduceSub,Nat.reduceLT,Nat.reduceLeDiff,Nat.reduceEqDiff,Nat.reduceBEq,Nat.reduceBNe,reduceIte,reduceCtorEq,Int.reduceToNat,Int.reduceLT,Int.reduceLE,Int.reduceEq,Int.reduceNe,Int.reduceNeg,ustrA,ti3,ti9,ti34,ti36,ti180,ti369,ca260,ca261,cf,Tryz.results198,decide_eq_false h8,decide_eq_true k1,hl]
        refine .inl ⟨by kernel_rfl,by kernel_rfl,?_⟩
        repeat' first
          | (refine guardT_intro (fun h=>?_) (fun h=>?_) <;> (try simp only [decide_eq_true_eq,decide_eq_false_iff_not,Bool.not_eq_eq_eq_not,Bool.not_true,Bool.not_false] at h) <;> simp only [zW,zX,zD,builtinA,isLeaf,const1,Nat.reduceAdd,Nat.reduceMul,Nat.reduceSub,Nat.reduceLT,Nat.reduceLeDiff,Nat.reduceEqDiff,Nat.reduceBEq,Nat.reduceBNe,reduceIte,reduceCtorEq,Int.reduceToNat,Int.reduceLT,Int.reduceLE,Int.reduceEq,Int.reduceNe,Int.reduceNeg,ustrA,ti3,ti9,ti34,ti36,ti180,ti369,ca260,ca261,cf,Tryz.results198,hl,h])
          | (refine guardF_intro (fun h=>?_) (fun h=>?_) <;> (try simp only [decide_eq_true_eq,decide_eq_false_iff_not,Bool.not_eq_eq_eq_not,Bool.not_true,Bool.not_false] at h) <;> simp only [zW,zX,zD,builtinA,isLeaf,const1,Nat.reduceAdd,Nat.reduceMul,Nat.reduceSub,Nat.reduceLT,Nat.reduceLeDiff,Nat.reduceEqDiff,Nat.reduceBEq,Nat.reduceBNe,reduceIte,reduceCtorEq,Int.reduceToNat,Int.reduceLT,Int.reduceLE,Int.reduceEq,Int.reduceNe,Int.reduceNeg,ustrA,ti3,ti9,ti34,ti36,ti180,ti369,ca260,ca261,cf,Tryz.results198,hl,h])
          | (refine condK_intro (fun h=>?_) (fun h=>?_) <;> (try simp only [decide_eq_true_eq,decide_eq_false_iff_not,Bool.not_eq_eq_eq_not,Bool.not_true,Bool.not_false] at h) <;> simp only [zW,zX,zD,builtinA,isLeaf,const1,Nat.reduceAdd,Nat.reduceMul,Nat.reduceSub,Nat.reduceLT,Nat.reduceLeDiff,Nat.reduceEqDiff,Nat.reduceBEq,Nat.reduceBNe,reduceIte,reduceCtorEq,Int.reduceToNat,Int.reduceLT,Int.reduceLE,Int.reduceEq,Int.reduceNe,Int.reduceNeg,ustrA,ti3,ti9,ti34,ti36,ti180,ti369,ca260,ca261,cf,Tryz.results198,hl,h])
          | (refine guardDT_intro (fun h=>?_) (fun h=>?_) <;> (try simp only [decide_eq_true_eq,decide_eq_false_iff_not,Bool.not_eq_eq_eq_not,Bool.not_true,Bool.not_false] at h) <;> simp only [zW,zX,zD,builtinA,isLeaf,const1,Nat.reduceAdd,Nat.reduceMul,Nat.reduceSub,Nat.reduceLT,Nat.reduceLeDiff,Nat.reduceEqDiff,Nat.reduceBEq,Nat.reduceBNe,reduceIte,reduceCtorEq,Int.reduceToNat,Int.reduceLT,Int.reduceLE,Int.reduceEq,Int.reduceNe,Int.reduceNeg,ustrA,ti3,ti9,ti34,ti36,ti180,ti369,ca260,ca261,cf,Tryz.results198,hl,h])
          | (refine guardDF_intro (fun h=>?_) (fun h=>?_) <;> (try simp only [decide_eq_true_eq,decide_eq_false_iff_not,Bool.not_eq_eq_eq_not,Bool.not_true,Bool.not_false] at h) <;> simp only [zW,zX,zD,builtinA,isLeaf,const1,Nat.reduceAdd,Nat.reduceMul,Nat.reduceSub,Nat.reduceLT,Nat.reduceLeDiff,Nat.reduceEqDiff,Nat.reduceBEq,Nat.reduceBNe,reduceIte,reduceCtorEq,Int.reduceToNat,Int.reduceLT,Int.reduceLE,Int.reduceEq,Int.reduceNe,Int.reduceNeg,ustrA,ti3,ti9,ti34,ti36,ti180,ti369,ca260,ca261,cf,Tryz.results198,hl,h])
          | refine And.intro ?_ ?_
        all_goals simp [ifA, *]
      · by_cases k2 : k = 2
        · subst k2
          simp only [zW,zX,zD,builtinA,isLeaf,const1,Nat.reduceAdd,Nat.reduceMul,Nat.reduceSub,Nat.reduceLT,Nat.reduceLeDiff,Nat.reduceEqDiff,Nat.reduceBEq,Nat.reduceBNe,reduceIte,reduceCtorEq,Int.reduceToNat,Int.reduceLT,Int.reduceLE,Int.reduceEq,Int.reduceNe,Int.reduceNeg,ustrA,ti3,ti9,ti34,ti36,ti180,ti369,ca260,ca261,cf,Tryz.results198,decide_eq_false h8,decide_eq_false k1]
          refine callK_intro (by simp only [zW,zX,zD,builtinA,isLeaf,const1,Nat.reduceAdd,Nat.reduceMul,Nat.reduceSub,Nat.reduceLT,Nat.reduceLeDiff,Nat.reduceEqDiff,Nat.reduceBEq,Nat.reduceBNe,reduceIte,reduceCtorEq,Int.reduceToNat,Int.reduceLT,Int.reduceLE,Int.reduceEq,Int.reduceNe,Int.reduceNeg,ustrA,Option.map_some]; rfl) (impl_readFun m n ks d h0 (by omega) ih _) ?_ rfl; rintro v A' ⟨rfl,rfl⟩
          rcases readO (.mk 2 m n ks) d with ⟨_ | ⟨t,x⟩,ok⟩ <;> simp only [ifA] <;> (simp only [zW,zX,zD,builtinA,isLeaf,const1,Nat.reduceAdd,Nat.reduceMul,Nat.reduceSub,Nat.reduceLT,Nat.reduceLeDiff,Nat.reduceEqDiff,Nat.reduceBEq,Nat.reduceBNe,reduceIte,reduceCtorEq,Int.reduceToNat,Int.reduceLT,Int.reduceLE,Int.reduceEq,Int.reduceNe,Int.reduceNeg,ustrA,ti3,ti9,ti34,ti36,ti180,ti369,ca260,ca261,cf,Tryz.results198])
        · rw [readO,if_neg h8,if_neg k1,if_neg k2]
          by_cases k3 : k = 3
          · rw [if_pos k3]
            simp only [zW,zX,zD,builtinA,isLeaf,const1,Nat.reduceAdd,Nat.reduceMul,Nat.reduceSub,Nat.reduceLT,Nat.reduceLeDiff,Nat.reduceEqDiff,Nat.reduceBEq,Nat.reduceBNe,reduceIte,reduceCtorEq,Int.reduceToNat,Int.reduceLT,Int.reduceLE,Int.reduceEq,Int.reduceNe,Int.reduceNeg,ustrA,ti3,ti9,ti34,ti36,ti180,ti369,ca260,ca261,cf,Tryz.results198,decide_eq_false h8,decide_eq_false k1,decide_eq_false k2,decide_eq_true k3]
            refine .inl ⟨by kernel_rfl,by kernel_rfl,?_⟩
            refine callD_intro (by simp only [zW,zX,zD,builtinA,isLeaf,const1,Nat.reduceAdd,Nat.reduceMul,Nat.reduceSub,Nat.reduceLT,Nat.reduceLeDiff,Nat.reduceEqDiff,Nat.reduceBEq,Nat.reduceBNe,reduceIte,reduceCtorEq,Int.reduceToNat,Int.reduceLT,Int.reduceLE,Int.reduceEq,Int.reduceNe,Int.reduceNeg,ustrA,Option.map_some] <;> rfl) (impl_validName m n _) ?_ rfl
            cases hn : ((decide (m = []) || moduleB m) && localB n) with
            | true =>
              simp only [zW,zX,zD,builtinA,isLeaf,const1,Nat.reduceAdd,Nat.reduceMul,Nat.reduceSub,Nat.reduceLT,Nat.reduceLeDiff,Nat.reduceEqDiff,Nat.reduceBEq,Nat.reduceBNe,reduceIte,reduceCtorEq,Int.reduceToNat,Int.reduceLT,Int.reduceLE,Int.reduceEq,Int.reduceNe,Int.reduceNeg,ustrA,ti3,ti9,ti34,ti36,ti180,ti369,ca260,ca261,cf,Tryz.results198,hl,ifA]
            | false =>
              simp only [zW,zX,zD,builtinA,isLeaf,const1,Nat.reduceAdd,Nat.reduceMul,Nat.reduceSub,Nat.reduceLT,Nat.reduceLeDiff,Nat.reduceEqDiff,Nat.reduceBEq,Nat.reduceBNe,reduceIte,reduceCtorEq,Int.reduceToNat,Int.reduceLT,Int.reduceLE,Int.reduceEq,Int.reduceNe,Int.reduceNeg,ustrA,ti3,ti9,ti34,ti36,ti180,ti369,ca260,ca261,cf,Tryz.results198,hl,ifA]
          · rw [if_neg k3]
            simp only [zW,zX,zD,builtinA,isLeaf,const1,Nat.reduceAdd,Nat.reduceMul,Nat.reduceSub,Nat.reduceLT,Nat.reduceLeDiff,Nat.reduceEqDiff,Nat.reduceBEq,Nat.reduceBNe,reduceIte,reduceCtorEq,Int.reduceToNat,Int.reduceLT,Int.reduceLE,Int.reduceEq,Int.reduceNe,Int.reduceNeg,ustrA,ti3,ti9,ti34,ti36,ti180,ti369,ca260,ca261,cf,Tryz.results198,decide_eq_false h8,decide_eq_false k1,decide_eq_false k2,decide_eq_false k3,ifA]
end Go.Proofs.YtnjdbgiincliaaaGreat
