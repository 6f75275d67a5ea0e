/- Imps, ImLaw, ExLaw, Items, ItLaw, Uns. -/
import Derived.Test.YtnjdbgiincliaaaGreatK04
import Derived.Test.YtnjdbgiincliaaaGreatAbsW3
/- Modules with their signatures as data, and what the laws' helpers do with lists of them. -/
set_option linter.unusedVariables false
set_option linter.unusedSimpArgs false
namespace Go.Proofs.YtnjdbgiincliaaaGreat
open Go.Abs
structure ImI where
  name : List UInt8
  sig : List SigI
def pm0 : ImI:=⟨[],[]⟩
def pE (x : ImI) : List AV:=[.str x.name,.slice (sEs x.sig)]
def pEA (x : ImI) : List AV:=[.str x.name,.aslice (sEAs x.sig)]
def pEs (l : List ImI) : List (List AV):=l.map pE
def pEAs (l : List ImI) : List (List AV):=l.map pEA
def szP (x : ImI) : Nat:=x.name.length + (x.sig.length + szIs x.sig)
def szPs (l : List ImI) : Nat:=(l.map szP).sum
def ImI.Ok (x : ImI) : Prop:=x.name.length < 2 ^ 63 ∧ SigsOk x.sig
def zpm : List AV:=[.str [],.slice []]
theorem pE_length (x : ImI) : (pE x).length = 2:=rfl
theorem pEA_length (x : ImI) : (pEA x).length = 2:=rfl
theorem pE_take (x : ImI) : List.take 2 (pE x) = pE x:=rfl
theorem pEA_take (x : ImI) : List.take 2 (pEA x) = pEA x:=rfl
theorem pE_leaf (x : ImI) : ∀ v ∈ pE x,isLeaf v = true:=by simp [pE,isLeaf]
theorem frzL_pE (x : ImI) (A : List Box) : frzL (pE x) A = some (pE x,A):=rfl
theorem frzL_pEA (x : ImI) (A : List Box) : frzL (pEA x) A = some (pEA x,A):=rfl
theorem pEs_length (l : List ImI) : (pEs l).length = l.length:=by simp [pEs]
theorem pEAs_length (l : List ImI) : (pEAs l).length = l.length:=by simp [pEAs]
theorem pEs_getD {l : List ImI} {i : Nat} (h : i < l.length) : (pEs l).getD i [] = pE (l.getD i pm0):=by simp [pEs,List.getD,h]
theorem pEAs_getD {l : List ImI} {i : Nat} (h : i < l.length) : (pEAs l).getD i [] = pEA (l.getD i pm0):=by simp [pEAs,List.getD,h]
theorem pm_mem {l : List ImI} {i : Nat} (h : i < l.length) : l.getD i pm0 ∈ l:=by simp [List.getD,h]
theorem pm_take {l : List ImI} {i : Nat} (h : i < l.length) : l.take (i + 1) = l.take i ++ [l.getD i pm0]:=by
  rw [List.take_add_one]; simp [List.getD,h]
theorem szPs_take {l : List ImI} {i : Nat} (h : i < l.length) : szPs (l.take (i + 1)) = szPs (l.take i) + szP (l.getD i pm0):=by
  rw [pm_take h]; simp [szPs]
theorem szPs_le (l : List ImI) (i : Nat) : szPs (l.take i) ≤ szPs l:=by
  have h : szPs l = szPs (l.take i) + szPs (l.drop i):=by
    conv=>lhs; rw [← List.take_append_drop i l]
    simp only [szPs,List.map_append,List.sum_append]
  omega
theorem szPs_mem {x : ImI} {l : List ImI} (h : x ∈ l) : szP x ≤ szPs l:=by
  induction l with
  | nil=>simp at h
  | cons y l ih =>
    simp only [szPs,List.map_cons,List.sum_cons] at ih ⊢
    rcases List.mem_cons.1 h with rfl | h
    · omega
    · have:=ih h; omega
set_option maxRecDepth 100000 in
theorem laws_szImport (x : ImI) (hx : x.Ok) (l : Int) (A : List Box) (h0 : 0 ≤ l) (h1 : l ≤ 1048576) :
    ACalls Tryz.prog 208 [.agg (pEA x),.int .i64 l] A (fun v A'=>v = .int .i64 (left l (szP x)) ∧ A' = A):=by
  have hw : IntKind.i64.wrap (l - ↑x.name.length) = l - x.name.length:=wrap64 (by have:=hx.1; omega) (by have:=hx.1; omega)
  rw [pEA]
  refine acalls_enter (cf:=cf 19 [0,1,2,4,11,17]) foll Tryz.func208 Tryz.ntmps208 (by simp [cf]) ?_
  simp only [Tryz.f208,EnterK_some,zW,zX,zD,builtinA,isLeaf,const1,ustrA,simprocAttr,ti3,ti9,ti46,ti134,ti297,ca22,cf,Tryz.results208]
  rw [hw]
  refine condK_intro (fun h=>?_) (fun h=>?_)
  · simp only [zW,zX,zD,builtinA,isLeaf,const1,ustrA,simprocAttr,ti3,ti9,ti46,ti134,ti297,ca22,cf,Tryz.results208]
    rw [left,if_neg (by rw [szP]; simp at h; omega)]
  · simp only [decide_eq_false_iff_not] at h
    simp only [zW,zX,zD,builtinA,isLeaf,const1,ustrA,simprocAttr,ti3,ti9,ti46,ti134,ti297,ca22,cf,Tryz.results208]
    refine callK_intro (by simp only [zW,zX,zD,builtinA,isLeaf,const1,ustrA,simprocAttr,Option.map_some]; rfl) (laws_szSigItemS x.sig hx.2.1 hx.2.2 _ _ (by omega) (by omega)) ?_ rfl; rintro v A' ⟨rfl,rfl⟩
    by_cases hf : ((szP x : Nat) : Int) ≤ l
    · have hv : left (l - ↑x.name.length) (x.sig.length + szIs x.sig) = l - szP x:=by
        rw [szP] at hf ⊢
        rw [left,if_pos (by omega)]; omega
      have hn : decide (l - szP x < 0) = false:=by simp only [decide_eq_false_iff_not]; omega
      rw [hv,left,if_pos hf]
      simp only [zW,zX,zD,builtinA,isLeaf,const1,ustrA,simprocAttr,ti3,ti9,ti46,ti134,ti297,ca22,cf,Tryz.results208,hn]
    · have hv : left (l - ↑x.name.length) (x.sig.length + szIs x.sig) = -1:=by
        rw [szP] at hf
        rw [left,if_neg (by omega)]
      rw [hv,left,if_neg hf]
      simp only [zW,zX,zD,builtinA,isLeaf,const1,ustrA,simprocAttr,ti3,ti9,ti46,ti134,ti297,ca22,cf,Tryz.results208]
set_option maxRecDepth 100000 in
theorem laws_szImportS (ks : List ImI) (hl : ks.length < 2 ^ 63) (hk : ∀ t ∈ ks,t.Ok) (l : Int) (A : List Box) (h0 : 0 ≤ l) (h1 : l ≤ 1048576) :
    ACalls Tryz.prog 122 [.aslice (pEAs ks),.int .i64 l] A (fun v A'=>v = .int .i64 (left l (ks.length + szPs ks)) ∧ A' = A):=by
  have hw : IntKind.i64.wrap (l - ↑(pEAs ks).length) = l - ks.length:=by rw [pEAs_length]; exact wrap64 (by omega) (by omega)
  refine acalls_enter (cf:=cf 27 [0,1,4,5,11,15,25]) foll Tryz.func122 Tryz.ntmps122 (by simp [cf]) ?_
  simp only [Tryz.f122,EnterK_some,zW,zX,zD,builtinA,isLeaf,const1,ustrA,simprocAttr,ti3,ti71,ti297,ca208,cf,Tryz.results122]
  rw [hw]
  refine condK_intro (fun h=>?_) (fun h=>?_)
  · simp only [zW,zX,zD,builtinA,isLeaf,const1,ustrA,simprocAttr,ti3,ti71,ti297,ca208,cf,Tryz.results122]
    have : ¬ ((ks.length + szPs ks : Nat) : Int) ≤ l:=by simp at h; omega
    rw [left,if_neg this]
  · simp only [zW,zX,zD,builtinA,isLeaf,const1,ustrA,simprocAttr,ti3,ti71,ti297,ca208,cf,Tryz.results122]
    refine aloop_intro [0,1,5] (fun e A'=>∃ i,i ≤ ks.length ∧ ((ks.length + szPs (ks.take i) : Nat) : Int) ≤ l ∧ e = [(0,.aslice (pEAs ks)),(1,.int .i64 (l - (ks.length + szPs (ks.take i) : Nat))),(5,.int .i64 i)] ∧ A' = A) (fun e _=>ks.length - (intOf (Abs.look 5 e)).toNat) ?_ ?_
    · refine ⟨0,by omega,?_,?_,rfl⟩
      · simp at h; simp [szPs]; omega
      · simp only [zW,zX,zD,builtinA,isLeaf,const1,ustrA,simprocAttr,ti3,ti71,ti297,ca208,cf,Tryz.results122]
        simp [szPs]
    · rintro e A' ⟨i,hi,hle,rfl,rfl⟩
      simp only [zW,zX,zD,builtinA,isLeaf,const1,ustrA,simprocAttr,ti3,ti71,ti297,ca208,cf,Tryz.results122]
      refine condK_intro (fun h2=>?_) (fun h2=>?_)
      · have hi2 : i < ks.length:=by simp [pEAs_length] at h2; exact h2
        have he:=pEAs_getD hi2
        have hm:=pm_mem hi2
        have hs:=szPs_take hi2
        simp only [zW,zX,zD,builtinA,isLeaf,const1,ustrA,simprocAttr,ti3,ti71,ti297,ca208,cf,Tryz.results122,he,pEA_length,pEA_take,pEAs_length]
        refine ⟨⟨by omega,by omega⟩,?_⟩
        refine callK_intro (by simp only [zW,zX,zD,builtinA,isLeaf,const1,ustrA,simprocAttr,frzL_pEA,Option.map_some]; rfl) (laws_szImport _ (hk _ hm) _ _ (by omega) (by omega)) ?_ rfl; rintro v A' ⟨rfl,rfl⟩
        by_cases hf : ((ks.length + szPs (ks.take (i + 1)) : Nat) : Int) ≤ l
        · have hv : left (l - ((ks.length + szPs (ks.take i) : Nat) : Int)) (szP (ks.getD i pm0)) = l - ((ks.length + szPs (ks.take (i + 1)) : Nat) : Int):=by
            rw [left,if_pos (by omega)]; omega
          have hn : decide (l - ((ks.length + szPs (ks.take (i + 1)) : Nat) : Int) < 0) = false:=by simp only [decide_eq_false_iff_not]; omega
          have hi1 : IntKind.i64.wrap ((i : Int) + 1) = ((i + 1 : Nat) : Int):=by rw [wrap64 (by omega) (by omega)]; rfl
          rw [hv]
          simp only [zW,zX,zD,builtinA,isLeaf,const1,ustrA,simprocAttr,ti3,ti71,ti297,ca208,cf,Tryz.results122,hn,hi1,LoopK_eq,pEAs_length]
          refine ⟨⟨i + 1,by omega,hf,rfl⟩,?_⟩
          simp only [intOf]
          omega
        · have hv : left (l - ((ks.length + szPs (ks.take i) : Nat) : Int)) (szP (ks.getD i pm0)) = -1:=by
            rw [left,if_neg (by omega)]
          have hz:=szPs_le ks (i + 1)
          rw [hv,left,if_neg (by omega)]
          simp only [zW,zX,zD,builtinA,isLeaf,const1,ustrA,simprocAttr,ti3,ti71,ti297,ca208,cf,Tryz.results122]
      · simp only [zW,zX,zD,builtinA,isLeaf,const1,ustrA,simprocAttr,ti3,ti71,ti297,ca208,cf,Tryz.results122]
        have : i = ks.length:=by simp [pEAs_length] at h2; omega
        subst this
        rw [List.take_length] at hle ⊢
        rw [left,if_pos hle]
set_option maxRecDepth 100000 in
theorem laws_toImport (x : ImI) (hx : szP x ≤ 1048576) (A : List Box) : ACalls Tryz.prog 213 [.agg (pEA x)] A (fun v A'=>v = .agg (pE x) ∧ A' = A):=by
  have h1 : x.sig.length ≤ 1048576 ∧ szIs x.sig ≤ 1048576:=by rw [szP] at hx; omega
  rw [pEA,pE]
  refine acalls_enter (cf:=cf 12 [0,1,2,3]) foll Tryz.func213 Tryz.ntmps213 (by simp [cf]) ?_
  simp only [Tryz.f213,EnterK_some,zW,zX,zD,builtinA,isLeaf,const1,ustrA,simprocAttr,ti9,ti46,ti50,ti69,ti134,ti194,ti297,ca24,cf,Tryz.results213]
  refine callK_intro (by simp only [zW,zX,zD,builtinA,isLeaf,const1,ustrA,simprocAttr,Option.map_some]; rfl) (laws_toSigItemS x.sig h1.1 h1.2 _) ?_ rfl; rintro v A' ⟨rfl,rfl⟩
  simp only [zW,zX,zD,builtinA,isLeaf,const1,ustrA,simprocAttr,ti9,ti46,ti50,ti69,ti134,ti194,ti297,ca24,cf,Tryz.results213]
theorem prow_step {l : List ImI} {i : Nat} (h : i < l.length) : (pEs (l.take i) ++ List.replicate (l.length - i) zpm).set i (pE (l.getD i pm0) ++ List.drop 2 ((pEs (l.take i) ++ List.replicate (l.length - i) zpm).getD i [])) = pEs (l.take (i + 1)) ++ List.replicate (l.length - (i + 1)) zpm:=by
  have e1 : (pEs (l.take i)).length = i:=by rw [pEs_length]; simp; omega
  have e2 : List.drop 2 ((pEs (l.take i) ++ List.replicate (l.length - i) zpm).getD i []) = []:=by
    have e3 : l.length - i = (l.length - (i + 1)) + 1:=by omega
    rw [List.getD,List.getElem?_append_right (by omega),e1,Nat.sub_self,e3,List.replicate_succ]
    rfl
  have e4 : l.length - i = (l.length - (i + 1)) + 1:=by omega
  rw [e2,List.append_nil,List.set_append_right _ _ (by omega),e1,Nat.sub_self,e4,List.replicate_succ,List.set_cons_zero]
  simp only [pEs]
  rw [List.take_add_one,List.map_append,List.append_assoc]
  simp [List.getD,h]
set_option maxRecDepth 100000 in
theorem laws_toImportS (ks : List ImI) (hl : ks.length ≤ 1048576) (hk : szPs ks ≤ 1048576) (A : List Box) :
    ACalls Tryz.prog 126 [.aslice (pEAs ks)] A (fun v A'=>v = .slice (pEs ks) ∧ A' = A):=by
  have hl2 : ((pEAs ks).length : Int) ≤ 1048576:=by rw [pEAs_length]; omega
  refine acalls_enter (cf:=cf 23 [0,2,3,4,11]) foll Tryz.func126 Tryz.ntmps126 (by simp [cf]) ?_
  simp only [Tryz.f126,EnterK_some,zW,zX,zD,builtinA,isLeaf,const1,ustrA,simprocAttr,ti3,ti71,ti77,ti194,ti297,ca213,cf,Tryz.results126]
  refine ⟨⟨by omega,by omega,by omega⟩,?_⟩
  refine aloop_intro [0,3,4] (fun e A'=>∃ i,i ≤ ks.length ∧ e = [(0,.aslice (pEAs ks)),(3,.own A.length),(4,.int .i64 i)] ∧ A' = A ++ [.row 2 (pEs (ks.take i) ++ List.replicate (ks.length - i) zpm) 0]) (fun e _=>ks.length - (intOf (Abs.look 4 e)).toNat) ?_ ?_
  · simp only [zW,zX,zD,builtinA,isLeaf,const1,ustrA,simprocAttr,ti3,ti71,ti77,ti194,ti297,ca213,cf,Tryz.results126]
    exact ⟨0,by omega,rfl,by rw [pEAs_length]; simp [pEs,zpm]⟩
  · rintro e A' ⟨i,hi,rfl,rfl⟩
    simp only [zW,zX,zD,builtinA,isLeaf,const1,ustrA,simprocAttr,ti3,ti71,ti77,ti194,ti297,ca213,cf,Tryz.results126,pEAs_length]
    refine condK_intro (fun h2=>?_) (fun h2=>?_)
    · have hi2 : i < ks.length:=by simpa using h2
      have he:=pEAs_getD hi2
      have hm:=pm_mem hi2
      have hzm:=szPs_mem hm
      simp only [zW,zX,zD,builtinA,isLeaf,const1,ustrA,simprocAttr,ti3,ti71,ti77,ti194,ti297,ca213,cf,Tryz.results126,he,pEA_length,pEA_take,pEAs_length]
      refine ⟨⟨by omega,by omega⟩,?_⟩
      refine callK_intro (by simp only [zW,zX,zD,builtinA,isLeaf,const1,ustrA,simprocAttr,frzL_pEA,Option.map_some]; rfl) (laws_toImport _ (by omega) _) ?_ rfl; rintro v A' ⟨rfl,rfl⟩
      have hi1 : IntKind.i64.wrap ((i : Int) + 1) = ((i + 1 : Nat) : Int):=by rw [wrap64 (by omega) (by omega)]; rfl
      simp only [zW,zX,zD,builtinA,isLeaf,const1,ustrA,simprocAttr,ti3,ti71,ti77,ti194,ti297,ca213,cf,Tryz.results126,pE_length,frzL_pE,prow_step hi2,hi1,LoopK_eq]
      have hlen : (pEs (List.take i ks)).length + (List.replicate (ks.length - i) zpm).length = ks.length:=by
        simp [pEs_length]; omega
      rw [hlen]
      refine ⟨⟨by omega,by omega⟩,⟨by omega,by omega,fun v hv=>pE_leaf _ v hv⟩,⟨i + 1,by omega,rfl,rfl⟩,?_⟩
      simp only [intOf]
      omega
    · simp only [zW,zX,zD,builtinA,isLeaf,const1,ustrA,simprocAttr,ti3,ti71,ti77,ti194,ti297,ca213,cf,Tryz.results126]
      have : i = ks.length:=by simp at h2; omega
      subst this
      simp [List.take_length]
set_option maxRecDepth 100000 in
theorem laws_eqImport (x : ImI) (hx : x.Ok) (A : List Box) : ACalls Tryz.prog 220 [.agg (pE x),.agg (pE x)] A (fun v A'=>v = .bool true ∧ A' = A):=by
  rw [pE]
  refine acalls_enter (cf:=cf 16 [0,1,2,3,4,9,15]) foll Tryz.func220 Tryz.ntmps220 (by simp [cf]) ?_
  simp only [Tryz.f220,EnterK_some,zW,zX,zD,builtinA,isLeaf,const1,ustrA,simprocAttr,ti9,ti50,ti69,ti194,ca27,cf,Tryz.results220]
  refine callK_intro (by simp only [zW,zX,zD,builtinA,isLeaf,const1,ustrA,simprocAttr,Option.map_some]; rfl) (laws_eqSigItemS x.sig hx.2.1 hx.2.2 _) ?_ rfl; rintro v A' ⟨rfl,rfl⟩
  simp only [zW,zX,zD,builtinA,isLeaf,const1,ustrA,simprocAttr,ti9,ti50,ti69,ti194,ca27,cf,Tryz.results220]
set_option maxRecDepth 100000 in
theorem laws_eqImportS (ks : List ImI) (hl : ks.length < 2 ^ 63) (hk : ∀ t ∈ ks,t.Ok) (A : List Box) :
    ACalls Tryz.prog 130 [.slice (pEs ks),.slice (pEs ks)] A (fun v A'=>v = .bool true ∧ A' = A):=by
  refine acalls_enter (cf:=cf 27 [0,1,4,5,10,14,26]) foll Tryz.func130 Tryz.ntmps130 (by simp [cf]) ?_
  simp only [Tryz.f130,EnterK_some,zW,zX,zD,builtinA,isLeaf,const1,ustrA,simprocAttr,ti3,ti77,ti194,ca220,cf,Tryz.results130]
  refine aloop_intro [0,1,5] (fun e A'=>∃ i,i ≤ ks.length ∧ e = [(0,.slice (pEs ks)),(1,.slice (pEs ks)),(5,.int .i64 i)] ∧ A' = A) (fun e _=>ks.length - (intOf (Abs.look 5 e)).toNat) ?_ ?_
  · simp only [zW,zX,zD,builtinA,isLeaf,const1,ustrA,simprocAttr,ti3,ti77,ti194,ca220,cf,Tryz.results130]
    exact ⟨0,by omega,rfl⟩
  · rintro e A' ⟨i,hi,rfl,rfl⟩
    simp only [zW,zX,zD,builtinA,isLeaf,const1,ustrA,simprocAttr,ti3,ti77,ti194,ca220,cf,Tryz.results130,pEs_length]
    refine condK_intro (fun h2=>?_) (fun h2=>?_)
    · have hi2 : i < ks.length:=by simpa using h2
      have he:=pEs_getD hi2
      have hm:=pm_mem hi2
      have hi1 : IntKind.i64.wrap ((i : Int) + 1) = ((i + 1 : Nat) : Int):=by rw [wrap64 (by omega) (by omega)]; rfl
      simp only [zW,zX,zD,builtinA,isLeaf,const1,ustrA,simprocAttr,ti3,ti77,ti194,ca220,cf,Tryz.results130,he,pE_length,pE_take,pEs_length]
      refine .inl ⟨by kernel_rfl,by kernel_rfl,⟨by omega,by omega⟩,⟨by omega,by omega⟩,?_⟩
      refine callD_intro (by simp only [zW,zX,zD,builtinA,isLeaf,const1,ustrA,simprocAttr,frzL_pE,Option.map_some] <;> rfl) (laws_eqImport _ (hk _ hm) _) ?_ rfl
      simp only [zW,zX,zD,builtinA,isLeaf,const1,ustrA,simprocAttr,ti3,ti77,ti194,ca220,cf,Tryz.results130,hi1,LoopK_eq]
      refine ⟨⟨i + 1,by omega,rfl⟩,?_⟩
      simp only [intOf]
      omega
    · simp only [zW,zX,zD,builtinA,isLeaf,const1,ustrA,simprocAttr,ti3,ti77,ti194,ca220,cf,Tryz.results130]
end Go.Proofs.YtnjdbgiincliaaaGreat
/- From a law's argument, a list of modules, to data. -/
set_option linter.unusedVariables false
set_option linter.unusedSimpArgs false
namespace Go.Proofs.YtnjdbgiincliaaaGreat
open Go.Abs Go.RowKit Go.ChangeShapes Go.WideShapes Go.ChangeAt Go.ChangeMaps
def ImsOk (l : List ImI) : Prop:=l.length < 2 ^ 63 ∧ ∀ x ∈ l,x.Ok
theorem cP : Tryz.prog.cellsOf 297 = 2:=by kernel_rfl
theorem cPS : Tryz.prog.cellsOf 71 = 1:=by kernel_rfl
theorem two_of {α : Type} {l : List α} (h : l.length = 2) : ∃ a b,l = [a,b]:=by
  match l,h with
  | [a,b],_=>exact ⟨a,b,rfl⟩
theorem pm_of {cz : List AV} (h : Cells Tryz.prog 297 cz) : ∃ x : ImI,cz = pEA x ∧ x.Ok:=by
  generalize ht : 297 = t at h
  cases h with
  | int h1 h2=>subst ht; rw [Tryz.underlying297] at h1; injection h1 with h1; cases h1
  | bool h1=>subst ht; rw [Tryz.underlying297] at h1; injection h1 with h1; cases h1
  | str h1=>subst ht; rw [Tryz.underlying297] at h1; injection h1 with h1; cases h1
  | slice h1 h2 h3=>subst ht; rw [Tryz.underlying297] at h1; injection h1 with h1; cases h1
  | @struct t fs cs h1 h2 h3 =>
    subst ht
    rw [Tryz.underlying297] at h1
    injection h1 with h1
    injection h1 with h1
    subst h1
    rw [cP] at h2
    obtain ⟨a,b,rfl⟩:=two_of h2
    simp only [List.mem_cons,List.not_mem_nil,or_false,forall_eq_or_imp,forall_eq,c3,c9,cS,cT,cIS,List.drop_zero,List.drop_succ_cons,List.take_succ_cons,List.take_zero] at h3
    obtain ⟨m,e2,l2⟩:=cells_str Tryz.underlying9 h3.1
    obtain ⟨τ,e3,l3⟩:=sis_of h3.2
    injection e2 with e2; injection e3 with e3
    subst e2; subst e3
    have hm : maxLen = 2 ^ 63 - 1:=rfl
    exact ⟨⟨m,τ⟩,rfl,by simp only [ImI.Ok]; exact ⟨by omega,l3⟩⟩
theorem pms_of {cz : List AV} (h : Cells Tryz.prog 71 cz) : ∃ l,cz = [.aslice (pEAs l)] ∧ ImsOk l:=by
  generalize ht : 71 = t at h
  cases h with
  | int h1 h2=>subst ht; rw [Tryz.underlying71] at h1; injection h1 with h1; cases h1
  | bool h1=>subst ht; rw [Tryz.underlying71] at h1; injection h1 with h1; cases h1
  | str h1=>subst ht; rw [Tryz.underlying71] at h1; injection h1 with h1; cases h1
  | slice h1 h2 h3 =>
    subst ht
    rw [Tryz.underlying71] at h1
    injection h1 with h1
    injection h1 with h1
    subst h1
    obtain ⟨ks,k1,k2,k3⟩:=list_enc (f:=pEA) (Q:=ImI.Ok) fun r hr=>pm_of (h3 r hr)
    have hm : maxLen = 2 ^ 63 - 1:=rfl
    refine ⟨ks,by rw [pEAs,k1],?_,k3⟩
    rw [k2]; omega
  | @struct t fs cs h1 h2 h3=>subst ht; rw [Tryz.underlying71] at h1; injection h1 with h1; cases h1
section
variable {H : Type} {enc' : TypeId × Value → H} {W : World}
end
end Go.Proofs.YtnjdbgiincliaaaGreat
/- From a law's argument, an expression, to a tree. -/
set_option linter.unusedVariables false
set_option linter.unusedSimpArgs false
namespace Go.Proofs.YtnjdbgiincliaaaGreat
open Go.Abs Go.RowKit Go.ChangeShapes Go.WideShapes Go.ChangeAt Go.ChangeMaps
theorem nine {α : Type} {l : List α} (h : l.length = 9) : ∃ a b c d e f g i j,l = [a,b,c,d,e,f,g,i,j]:=by
  match l,h with
  | [a,b,c,d,e,f,g,i,j],_=>exact ⟨a,b,c,d,e,f,g,i,j,rfl⟩
theorem cX : Tryz.prog.cellsOf 28 = 9:=by kernel_rfl
theorem cXS : Tryz.prog.cellsOf 26 = 1:=by kernel_rfl
theorem ex_of {t : TypeId} {cz : List AV} (h : Cells Tryz.prog t cz) :
    (t = 28 → ∃ x,cz = encXA x ∧ x.Ok) ∧ (t = 26 → ∃ ks,cz = [.aslice (encXAs ks)] ∧ ks.length < 2 ^ 63 ∧ ∀ k ∈ ks,k.Ok):=by
  induction h with
  | int h1 h2=>exact ⟨fun e=>(by subst e; rw [Tryz.underlying28] at h1; injection h1 with h1; cases h1),fun e=>(by subst e; rw [Tryz.underlying26] at h1; injection h1 with h1; cases h1)⟩
  | bool h1=>exact ⟨fun e=>(by subst e; rw [Tryz.underlying28] at h1; injection h1 with h1; cases h1),fun e=>(by subst e; rw [Tryz.underlying26] at h1; injection h1 with h1; cases h1)⟩
  | str h1=>exact ⟨fun e=>(by subst e; rw [Tryz.underlying28] at h1; injection h1 with h1; cases h1),fun e=>(by subst e; rw [Tryz.underlying26] at h1; injection h1 with h1; cases h1)⟩
  | slice h1 h2 h3 ih =>
    refine ⟨fun e=>(by subst e; rw [Tryz.underlying28] at h1; injection h1 with h1; cases h1),fun e=>?_⟩
    subst e
    rw [Tryz.underlying26] at h1
    injection h1 with h1
    injection h1 with h1
    obtain ⟨ks,k1,k2,k3⟩:=list_enc (f:=encXA) (Q:=Ex.Ok) fun r hr=>(ih r hr).1 h1.symm
    have hm : maxLen = 2 ^ 63 - 1:=rfl
    refine ⟨ks,by rw [encXAs_map,k1],?_,k3⟩
    rw [k2]
    omega
  | @struct t fs cs h1 h2 h3 ih =>
    refine ⟨fun e=>?_,fun e=>(by subst e; rw [Tryz.underlying26] at h1; injection h1 with h1; cases h1)⟩
    subst e
    rw [Tryz.underlying28] at h1
    injection h1 with h1
    injection h1 with h1
    subst h1
    rw [cX] at h2
    obtain ⟨a,b,c,d,e,f,g,i,j,rfl⟩:=nine h2
    simp only [List.mem_cons,List.not_mem_nil,or_false,forall_eq_or_imp,forall_eq,c3,c9,cS,cT,cXS,List.drop_zero,List.drop_succ_cons,List.take_succ_cons,List.take_zero] at h3 ih
    obtain ⟨k,e1⟩:=cells_int Tryz.underlying3 h3.1
    obtain ⟨i',e2⟩:=cells_int Tryz.underlying3 h3.2.1
    obtain ⟨m,e3,l3⟩:=cells_str Tryz.underlying9 h3.2.2.1
    obtain ⟨s,e4,l4⟩:=cells_str Tryz.underlying9 h3.2.2.2.1
    obtain ⟨τ,e5,l5⟩:=(ty_of h3.2.2.2.2.1).1 rfl
    obtain ⟨ks,e6,l6,l7⟩:=ih.2.2.2.2.2.2 trivial
    injection e1 with e1; injection e2 with e2; injection e3 with e3; injection e4 with e4; injection e6 with e6
    rw [encTA4] at e5
    injection e5 with e5 e7; injection e7 with e7 e8; injection e8 with e8 e9; injection e9 with e9
    subst e1; subst e2; subst e3; subst e4; subst e5; subst e6; subst e7; subst e8; subst e9
    have hm : maxLen = 2 ^ 63 - 1:=rfl
    exact ⟨.mk k i' m s τ ks,rfl,.mk (by omega) (by omega) l5 l6 l7⟩
section
variable {H : Type} {enc' : TypeId × Value → H} {W : World}
end
end Go.Proofs.YtnjdbgiincliaaaGreat
/- Items of structures as data, and what the laws' helpers do with lists of them. -/
set_option linter.unusedVariables false
set_option linter.unusedSimpArgs false
namespace Go.Proofs.YtnjdbgiincliaaaGreat
open Go.Abs
structure ItI where
  kind : Int
  name : List UInt8
  typ : Ty
  xk : Int
  xi : Int
  xm : List UInt8
  xn : List UInt8
  xt : Ty
  xs : List Ex
def ItI.ex (x : ItI) : Ex:=.mk x.xk x.xi x.xm x.xn x.xt x.xs
def itm0 : ItI:=⟨0,[],ty0,0,0,[],[],ty0,[]⟩
def iE (x : ItI) : List AV:=[.int .i64 x.kind,.str x.name,.int .i64 x.typ.kind,.str x.typ.mod,.str x.typ.name,.slice (encs x.typ.kids),.int .i64 x.xk,.int .i64 x.xi,.str x.xm,.str x.xn,.int .i64 x.xt.kind,.str x.xt.mod,.str x.xt.name,.slice (encs x.xt.kids),.slice (encXs x.xs)]
def iEA (x : ItI) : List AV:=[.int .i64 x.kind,.str x.name,.int .i64 x.typ.kind,.str x.typ.mod,.str x.typ.name,.aslice (encAs x.typ.kids),.int .i64 x.xk,.int .i64 x.xi,.str x.xm,.str x.xn,.int .i64 x.xt.kind,.str x.xt.mod,.str x.xt.name,.aslice (encAs x.xt.kids),.aslice (encXAs x.xs)]
def iEs (l : List ItI) : List (List AV):=l.map iE
def iEAs (l : List ItI) : List (List AV):=l.map iEA
def szJ (x : ItI) : Nat:=x.name.length + sz x.typ + szX x.ex
def szJs (l : List ItI) : Nat:=(l.map szJ).sum
def ItI.Ok (x : ItI) : Prop:=x.name.length < 2 ^ 63 ∧ x.typ.Ok ∧ x.ex.Ok
def zit : List AV:=[.int .i64 0,.str [],.int .i64 0,.str [],.str [],.slice [],.int .i64 0,.int .i64 0,.str [],.str [],.int .i64 0,.str [],.str [],.slice [],.slice []]
theorem iE_length (x : ItI) : (iE x).length = 15:=rfl
theorem iEA_length (x : ItI) : (iEA x).length = 15:=rfl
theorem iE_take (x : ItI) : List.take 15 (iE x) = iE x:=rfl
theorem iEA_take (x : ItI) : List.take 15 (iEA x) = iEA x:=rfl
theorem iE_leaf (x : ItI) : ∀ v ∈ iE x,isLeaf v = true:=by simp [iE,isLeaf]
theorem frzL_iE (x : ItI) (A : List Box) : frzL (iE x) A = some (iE x,A):=rfl
theorem frzL_iEA (x : ItI) (A : List Box) : frzL (iEA x) A = some (iEA x,A):=rfl
theorem iEs_length (l : List ItI) : (iEs l).length = l.length:=by simp [iEs]
theorem iEAs_length (l : List ItI) : (iEAs l).length = l.length:=by simp [iEAs]
theorem iEs_getD {l : List ItI} {i : Nat} (h : i < l.length) : (iEs l).getD i [] = iE (l.getD i itm0):=by simp [iEs,List.getD,h]
theorem iEAs_getD {l : List ItI} {i : Nat} (h : i < l.length) : (iEAs l).getD i [] = iEA (l.getD i itm0):=by simp [iEAs,List.getD,h]
theorem it_mem {l : List ItI} {i : Nat} (h : i < l.length) : l.getD i itm0 ∈ l:=by simp [List.getD,h]
theorem it_take {l : List ItI} {i : Nat} (h : i < l.length) : l.take (i + 1) = l.take i ++ [l.getD i itm0]:=by
  rw [List.take_add_one]; simp [List.getD,h]
theorem szJs_take {l : List ItI} {i : Nat} (h : i < l.length) : szJs (l.take (i + 1)) = szJs (l.take i) + szJ (l.getD i itm0):=by
  rw [it_take h]; simp [szJs]
theorem szJs_le (l : List ItI) (i : Nat) : szJs (l.take i) ≤ szJs l:=by
  have h : szJs l = szJs (l.take i) + szJs (l.drop i):=by
    conv=>lhs; rw [← List.take_append_drop i l]
    simp only [szJs,List.map_append,List.sum_append]
  omega
theorem szJs_mem {x : ItI} {l : List ItI} (h : x ∈ l) : szJ x ≤ szJs l:=by
  induction l with
  | nil=>simp at h
  | cons y l ih =>
    simp only [szJs,List.map_cons,List.sum_cons] at ih ⊢
    rcases List.mem_cons.1 h with rfl | h
    · omega
    · have:=ih h; omega
set_option maxRecDepth 100000 in
theorem laws_szItem (x : ItI) (hx : x.Ok) (l : Int) (A : List Box) (h0 : 0 ≤ l) (h1 : l ≤ 1048576) :
    ACalls Tryz.prog 209 [.agg (iEA x),.int .i64 l] A (fun v A'=>v = .int .i64 (left l (szJ x)) ∧ A' = A):=by
  have hw : IntKind.i64.wrap (l - ↑x.name.length) = l - x.name.length:=wrap64 (by have:=hx.1; omega) (by have:=hx.1; omega)
  have hszT:=fun (l : Int) A (h0 : 0 ≤ l) (h1 : l ≤ 1048576)=>laws_szType x.typ hx.2.1 l A h0 h1
  have hszX:=fun (l : Int) A (h0 : 0 ≤ l) (h1 : l ≤ 1048576)=>laws_szExpr x.ex hx.2.2 l A h0 h1
  rw [encTA4] at hszT
  simp only [ItI.ex,encXA] at hszX
  have hs3 : szJ x = x.name.length + sz x.typ + szX (Ex.mk x.xk x.xi x.xm x.xn x.xt x.xs):=rfl
  generalize szX (Ex.mk x.xk x.xi x.xm x.xn x.xt x.xs) = zx at *
  generalize sz x.typ = zt at *
  rw [hs3,iEA]
  refine acalls_enter (cf:=cf 25 [0,1,2,4,11,17,23]) foll Tryz.func209 Tryz.ntmps209 (by simp [cf]) ?_
  simp only [Tryz.f209,EnterK_some,zW,zX,zD,builtinA,isLeaf,const1,ustrA,simprocAttr,ti3,ti9,ti25,ti28,ti300,ca56,ca138,cf,Tryz.results209]
  rw [hw]
  refine condK_intro (fun h=>?_) (fun h=>?_)
  · simp only [zW,zX,zD,builtinA,isLeaf,const1,ustrA,simprocAttr,ti3,ti9,ti25,ti28,ti300,ca56,ca138,cf,Tryz.results209]
    rw [left,if_neg (by simp at h; omega)]
  · simp only [decide_eq_false_iff_not] at h
    simp only [zW,zX,zD,builtinA,isLeaf,const1,ustrA,simprocAttr,ti3,ti9,ti25,ti28,ti300,ca56,ca138,cf,Tryz.results209]
    refine callK_intro (by simp only [zW,zX,zD,builtinA,isLeaf,const1,ustrA,simprocAttr,Option.map_some]; rfl) (hszT _ _ (by omega) (by omega)) ?_ rfl; rintro v A' ⟨rfl,rfl⟩
    by_cases hf : (((x.name.length + zt : Nat)) : Int) ≤ l
    · have hv : left (l - ↑x.name.length) zt = l - (x.name.length + zt : Nat):=by
        rw [left,if_pos (by omega)]; omega
      have hn : decide (l - ((x.name.length + zt : Nat) : Int) < 0) = false:=by simp only [decide_eq_false_iff_not]; omega
      rw [hv]
      simp only [zW,zX,zD,builtinA,isLeaf,const1,ustrA,simprocAttr,ti3,ti9,ti25,ti28,ti300,ca56,ca138,cf,Tryz.results209,hn]
      refine callK_intro (by simp only [zW,zX,zD,builtinA,isLeaf,const1,ustrA,simprocAttr,Option.map_some]; rfl) (hszX _ _ (by omega) (by omega)) ?_ rfl; rintro v A' ⟨rfl,rfl⟩
      by_cases hg : (((x.name.length + zt + zx : Nat)) : Int) ≤ l
      · have hv2 : left (l - ((x.name.length + zt : Nat) : Int)) zx = l - (x.name.length + zt + zx : Nat):=by
          rw [left,if_pos (by omega)]; omega
        have hn2 : decide (l - ((x.name.length + zt + zx : Nat) : Int) < 0) = false:=by simp only [decide_eq_false_iff_not]; omega
        rw [hv2,left,if_pos hg]
        simp only [zW,zX,zD,builtinA,isLeaf,const1,ustrA,simprocAttr,ti3,ti9,ti25,ti28,ti300,ca56,ca138,cf,Tryz.results209,hn2]
      · have hv2 : left (l - ((x.name.length + zt : Nat) : Int)) zx = -1:=by rw [left,if_neg (by omega)]
        rw [hv2,left,if_neg hg]
        simp only [zW,zX,zD,builtinA,isLeaf,const1,ustrA,simprocAttr,ti3,ti9,ti25,ti28,ti300,ca56,ca138,cf,Tryz.results209]
    · have hv : left (l - ↑x.name.length) zt = -1:=by
        rw [left,if_neg (by omega)]
      rw [hv,left,if_neg (by omega)]
      simp only [zW,zX,zD,builtinA,isLeaf,const1,ustrA,simprocAttr,ti3,ti9,ti25,ti28,ti300,ca56,ca138,cf,Tryz.results209]
set_option maxRecDepth 100000 in
theorem laws_szItemS (ks : List ItI) (hl : ks.length < 2 ^ 63) (hk : ∀ t ∈ ks,t.Ok) (l : Int) (A : List Box) (h0 : 0 ≤ l) (h1 : l ≤ 1048576) :
    ACalls Tryz.prog 123 [.aslice (iEAs ks),.int .i64 l] A (fun v A'=>v = .int .i64 (left l (ks.length + szJs ks)) ∧ A' = A):=by
  have hw : IntKind.i64.wrap (l - ↑(iEAs ks).length) = l - ks.length:=by rw [iEAs_length]; exact wrap64 (by omega) (by omega)
  refine acalls_enter (cf:=cf 27 [0,1,4,5,11,15,25]) foll Tryz.func123 Tryz.ntmps123 (by simp [cf]) ?_
  simp only [Tryz.f123,EnterK_some,zW,zX,zD,builtinA,isLeaf,const1,ustrA,simprocAttr,ti3,ti72,ti300,ca209,cf,Tryz.results123]
  rw [hw]
  refine condK_intro (fun h=>?_) (fun h=>?_)
  · simp only [zW,zX,zD,builtinA,isLeaf,const1,ustrA,simprocAttr,ti3,ti72,ti300,ca209,cf,Tryz.results123]
    have : ¬ ((ks.length + szJs ks : Nat) : Int) ≤ l:=by simp at h; omega
    rw [left,if_neg this]
  · simp only [zW,zX,zD,builtinA,isLeaf,const1,ustrA,simprocAttr,ti3,ti72,ti300,ca209,cf,Tryz.results123]
    refine aloop_intro [0,1,5] (fun e A'=>∃ i,i ≤ ks.length ∧ ((ks.length + szJs (ks.take i) : Nat) : Int) ≤ l ∧ e = [(0,.aslice (iEAs ks)),(1,.int .i64 (l - (ks.length + szJs (ks.take i) : Nat))),(5,.int .i64 i)] ∧ A' = A) (fun e _=>ks.length - (intOf (Abs.look 5 e)).toNat) ?_ ?_
    · refine ⟨0,by omega,?_,?_,rfl⟩
      · simp at h; simp [szJs]; omega
      · simp only [zW,zX,zD,builtinA,isLeaf,const1,ustrA,simprocAttr,ti3,ti72,ti300,ca209,cf,Tryz.results123]
        simp [szJs]
    · rintro e A' ⟨i,hi,hle,rfl,rfl⟩
      simp only [zW,zX,zD,builtinA,isLeaf,const1,ustrA,simprocAttr,ti3,ti72,ti300,ca209,cf,Tryz.results123]
      refine condK_intro (fun h2=>?_) (fun h2=>?_)
      · have hi2 : i < ks.length:=by simp [iEAs_length] at h2; exact h2
        have he:=iEAs_getD hi2
        have hm:=it_mem hi2
        have hs:=szJs_take hi2
        simp only [zW,zX,zD,builtinA,isLeaf,const1,ustrA,simprocAttr,ti3,ti72,ti300,ca209,cf,Tryz.results123,he,iEA_length,iEA_take,iEAs_length]
        refine ⟨⟨by omega,by omega⟩,?_⟩
        refine callK_intro (by simp only [zW,zX,zD,builtinA,isLeaf,const1,ustrA,simprocAttr,frzL_iEA,Option.map_some]; rfl) (laws_szItem _ (hk _ hm) _ _ (by omega) (by omega)) ?_ rfl; rintro v A' ⟨rfl,rfl⟩
        by_cases hf : ((ks.length + szJs (ks.take (i + 1)) : Nat) : Int) ≤ l
        · have hv : left (l - ((ks.length + szJs (ks.take i) : Nat) : Int)) (szJ (ks.getD i itm0)) = l - ((ks.length + szJs (ks.take (i + 1)) : Nat) : Int):=by
            rw [left,if_pos (by omega)]; omega
          have hn : decide (l - ((ks.length + szJs (ks.take (i + 1)) : Nat) : Int) < 0) = false:=by simp only [decide_eq_false_iff_not]; omega
          have hi1 : IntKind.i64.wrap ((i : Int) + 1) = ((i + 1 : Nat) : Int):=by rw [wrap64 (by omega) (by omega)]; rfl
          rw [hv]
          simp only [zW,zX,zD,builtinA,isLeaf,const1,ustrA,simprocAttr,ti3,ti72,ti300,ca209,cf,Tryz.results123,hn,hi1,LoopK_eq,iEAs_length]
          refine ⟨⟨i + 1,by omega,hf,rfl⟩,?_⟩
          simp only [intOf]
          omega
        · have hv : left (l - ((ks.length + szJs (ks.take i) : Nat) : Int)) (szJ (ks.getD i itm0)) = -1:=by
            rw [left,if_neg (by omega)]
          have hz:=szJs_le ks (i + 1)
          rw [hv,left,if_neg (by omega)]
          simp only [zW,zX,zD,builtinA,isLeaf,const1,ustrA,simprocAttr,ti3,ti72,ti300,ca209,cf,Tryz.results123]
      · simp only [zW,zX,zD,builtinA,isLeaf,const1,ustrA,simprocAttr,ti3,ti72,ti300,ca209,cf,Tryz.results123]
        have : i = ks.length:=by simp [iEAs_length] at h2; omega
        subst this
        rw [List.take_length] at hle ⊢
        rw [left,if_pos hle]
set_option maxRecDepth 100000 in
theorem laws_toItem (x : ItI) (hx : szJ x ≤ 1048576) (A : List Box) : ACalls Tryz.prog 214 [.agg (iEA x)] A (fun v A'=>v = .agg (iE x) ∧ A' = A):=by
  have h1 : sz x.typ ≤ 1048576:=by rw [szJ] at hx; omega
  have h2 : szX x.ex ≤ 1048576:=by rw [szJ] at hx; omega
  have hT:=fun A=>laws_toType x.typ h1 A
  have hX:=fun A=>laws_toExpr x.ex h2 A
  rw [encTA4,encT4] at hT
  simp only [ItI.ex,encXA,encX] at hX
  rw [iEA,iE]
  refine acalls_enter (cf:=cf 19 [0,1,2,3]) foll Tryz.func214 Tryz.ntmps214 (by simp [cf]) ?_
  simp only [Tryz.f214,EnterK_some,zW,zX,zD,builtinA,isLeaf,const1,ustrA,simprocAttr,ti3,ti9,ti25,ti28,ti36,ti39,ti300,ti304,ca58,ca141,cf,Tryz.results214]
  refine callK_intro (by simp only [zW,zX,zD,builtinA,isLeaf,const1,ustrA,simprocAttr,Option.map_some]; rfl) (hT _) ?_ rfl; rintro v A' ⟨rfl,rfl⟩
  simp only [zW,zX,zD,builtinA,isLeaf,const1,ustrA,simprocAttr,ti3,ti9,ti25,ti28,ti36,ti39,ti300,ti304,ca58,ca141,cf,Tryz.results214]
  refine callK_intro (by simp only [zW,zX,zD,builtinA,isLeaf,const1,ustrA,simprocAttr,Option.map_some]; rfl) (hX _) ?_ rfl; rintro v A' ⟨rfl,rfl⟩
  simp only [zW,zX,zD,builtinA,isLeaf,const1,ustrA,simprocAttr,ti3,ti9,ti25,ti28,ti36,ti39,ti300,ti304,ca58,ca141,cf,Tryz.results214]
theorem irow_step {l : List ItI} {i : Nat} (h : i < l.length) : (iEs (l.take i) ++ List.replicate (l.length - i) zit).set i (iE (l.getD i itm0) ++ List.drop 15 ((iEs (l.take i) ++ List.replicate (l.length - i) zit).getD i [])) = iEs (l.take (i + 1)) ++ List.replicate (l.length - (i + 1)) zit:=by
  have e1 : (iEs (l.take i)).length = i:=by rw [iEs_length]; simp; omega
  have e2 : List.drop 15 ((iEs (l.take i) ++ List.replicate (l.length - i) zit).getD i []) = []:=by
    have e3 : l.length - i = (l.length - (i + 1)) + 1:=by omega
    rw [List.getD,List.getElem?_append_right (by omega),e1,Nat.sub_self,e3,List.replicate_succ]
    rfl
  have e4 : l.length - i = (l.length - (i + 1)) + 1:=by omega
  rw [e2,List.append_nil,List.set_append_right _ _ (by omega),e1,Nat.sub_self,e4,List.replicate_succ,List.set_cons_zero]
  simp only [iEs]
  rw [List.take_add_one,List.map_append,List.append_assoc]
  simp [List.getD,h]
set_option maxRecDepth 100000 in
theorem laws_toItemS (ks : List ItI) (hl : ks.length ≤ 1048576) (hk : szJs ks ≤ 1048576) (A : List Box) :
    ACalls Tryz.prog 127 [.aslice (iEAs ks)] A (fun v A'=>v = .slice (iEs ks) ∧ A' = A):=by
  have hl2 : ((iEAs ks).length : Int) ≤ 1048576:=by rw [iEAs_length]; omega
  refine acalls_enter (cf:=cf 23 [0,2,3,4,11]) foll Tryz.func127 Tryz.ntmps127 (by simp [cf]) ?_
  simp only [Tryz.f127,EnterK_some,zW,zX,zD,builtinA,isLeaf,const1,ustrA,simprocAttr,ti3,ti72,ti78,ti300,ti304,ca214,cf,Tryz.results127]
  refine ⟨⟨by omega,by omega,by omega⟩,?_⟩
  refine aloop_intro [0,3,4] (fun e A'=>∃ i,i ≤ ks.length ∧ e = [(0,.aslice (iEAs ks)),(3,.own A.length),(4,.int .i64 i)] ∧ A' = A ++ [.row 15 (iEs (ks.take i) ++ List.replicate (ks.length - i) zit) 0]) (fun e _=>ks.length - (intOf (Abs.look 4 e)).toNat) ?_ ?_
  · simp only [zW,zX,zD,builtinA,isLeaf,const1,ustrA,simprocAttr,ti3,ti72,ti78,ti300,ti304,ca214,cf,Tryz.results127]
    exact ⟨0,by omega,rfl,by rw [iEAs_length]; simp [iEs,zit]⟩
  · rintro e A' ⟨i,hi,rfl,rfl⟩
    simp only [zW,zX,zD,builtinA,isLeaf,const1,ustrA,simprocAttr,ti3,ti72,ti78,ti300,ti304,ca214,cf,Tryz.results127,iEAs_length]
    refine condK_intro (fun h2=>?_) (fun h2=>?_)
    · have hi2 : i < ks.length:=by simpa using h2
      have he:=iEAs_getD hi2
      have hm:=it_mem hi2
      have hzm:=szJs_mem hm
      simp only [zW,zX,zD,builtinA,isLeaf,const1,ustrA,simprocAttr,ti3,ti72,ti78,ti300,ti304,ca214,cf,Tryz.results127,he,iEA_length,iEA_take,iEAs_length]
      refine ⟨⟨by omega,by omega⟩,?_⟩
      refine callK_intro (by simp only [zW,zX,zD,builtinA,isLeaf,const1,ustrA,simprocAttr,frzL_iEA,Option.map_some]; rfl) (laws_toItem _ (by omega) _) ?_ rfl; rintro v A' ⟨rfl,rfl⟩
      have hi1 : IntKind.i64.wrap ((i : Int) + 1) = ((i + 1 : Nat) : Int):=by rw [wrap64 (by omega) (by omega)]; rfl
      simp only [zW,zX,zD,builtinA,isLeaf,const1,ustrA,simprocAttr,ti3,ti72,ti78,ti300,ti304,ca214,cf,Tryz.results127,iE_length,frzL_iE,irow_step hi2,hi1,LoopK_eq]
      have hlen : (iEs (List.take i ks)).length + (List.replicate (ks.length - i) zit).length = ks.length:=by
        simp [iEs_length]; omega
      rw [hlen]
      refine ⟨⟨by omega,by omega⟩,⟨by omega,by omega,fun v hv=>iE_leaf _ v hv⟩,⟨i + 1,by omega,rfl,rfl⟩,?_⟩
      simp only [intOf]
      omega
    · simp only [zW,zX,zD,builtinA,isLeaf,const1,ustrA,simprocAttr,ti3,ti72,ti78,ti300,ti304,ca214,cf,Tryz.results127]
      have : i = ks.length:=by simp at h2; omega
      subst this
      simp [List.take_length]
set_option maxRecDepth 100000 in
theorem laws_eqItem (x : ItI) (hx : x.Ok) (A : List Box) : ACalls Tryz.prog 221 [.agg (iE x),.agg (iE x)] A (fun v A'=>v = .bool true ∧ A' = A):=by
  have hT:=fun A=>laws_eqType x.typ hx.2.1 A
  have hX:=fun A=>laws_eqExpr x.ex hx.2.2 A
  rw [encT4] at hT
  simp only [ItI.ex,encX] at hX
  rw [iE]
  refine acalls_enter (cf:=cf 27 [0,1,2,3,4,9,14,20,26]) foll Tryz.func221 Tryz.ntmps221 (by simp [cf]) ?_
  simp only [Tryz.f221,EnterK_some,zW,zX,zD,builtinA,isLeaf,const1,ustrA,simprocAttr,ti3,ti9,ti36,ti39,ti304,ca61,ca149,cf,Tryz.results221]
  refine callK_intro (by simp only [zW,zX,zD,builtinA,isLeaf,const1,ustrA,simprocAttr,Option.map_some]; rfl) (hT _) ?_ rfl; rintro v A' ⟨rfl,rfl⟩
  simp only [zW,zX,zD,builtinA,isLeaf,const1,ustrA,simprocAttr,ti3,ti9,ti36,ti39,ti304,ca61,ca149,cf,Tryz.results221]
  refine callK_intro (by simp only [zW,zX,zD,builtinA,isLeaf,const1,ustrA,simprocAttr,Option.map_some]; rfl) (hX _) ?_ rfl; rintro v A' ⟨rfl,rfl⟩
  simp only [zW,zX,zD,builtinA,isLeaf,const1,ustrA,simprocAttr,ti3,ti9,ti36,ti39,ti304,ca61,ca149,cf,Tryz.results221]
set_option maxRecDepth 100000 in
theorem laws_eqItemS (ks : List ItI) (hl : ks.length < 2 ^ 63) (hk : ∀ t ∈ ks,t.Ok) (A : List Box) :
    ACalls Tryz.prog 131 [.slice (iEs ks),.slice (iEs ks)] A (fun v A'=>v = .bool true ∧ A' = A):=by
  refine acalls_enter (cf:=cf 27 [0,1,4,5,10,14,26]) foll Tryz.func131 Tryz.ntmps131 (by simp [cf]) ?_
  simp only [Tryz.f131,EnterK_some,zW,zX,zD,builtinA,isLeaf,const1,ustrA,simprocAttr,ti3,ti78,ti304,ca221,cf,Tryz.results131]
  refine aloop_intro [0,1,5] (fun e A'=>∃ i,i ≤ ks.length ∧ e = [(0,.slice (iEs ks)),(1,.slice (iEs ks)),(5,.int .i64 i)] ∧ A' = A) (fun e _=>ks.length - (intOf (Abs.look 5 e)).toNat) ?_ ?_
  · simp only [zW,zX,zD,builtinA,isLeaf,const1,ustrA,simprocAttr,ti3,ti78,ti304,ca221,cf,Tryz.results131]
    exact ⟨0,by omega,rfl⟩
  · rintro e A' ⟨i,hi,rfl,rfl⟩
    simp only [zW,zX,zD,builtinA,isLeaf,const1,ustrA,simprocAttr,ti3,ti78,ti304,ca221,cf,Tryz.results131,iEs_length]
    refine condK_intro (fun h2=>?_) (fun h2=>?_)
    · have hi2 : i < ks.length:=by simpa using h2
      have he:=iEs_getD hi2
      have hm:=it_mem hi2
      have hi1 : IntKind.i64.wrap ((i : Int) + 1) = ((i + 1 : Nat) : Int):=by rw [wrap64 (by omega) (by omega)]; rfl
      simp only [zW,zX,zD,builtinA,isLeaf,const1,ustrA,simprocAttr,ti3,ti78,ti304,ca221,cf,Tryz.results131,he,iE_length,iE_take,iEs_length]
      refine .inl ⟨by kernel_rfl,by kernel_rfl,⟨by omega,by omega⟩,⟨by omega,by omega⟩,?_⟩
      refine callD_intro (by simp only [zW,zX,zD,builtinA,isLeaf,const1,ustrA,simprocAttr,frzL_iE,Option.map_some] <;> rfl) (laws_eqItem _ (hk _ hm) _) ?_ rfl
      simp only [zW,zX,zD,builtinA,isLeaf,const1,ustrA,simprocAttr,ti3,ti78,ti304,ca221,cf,Tryz.results131,hi1,LoopK_eq]
      refine ⟨⟨i + 1,by omega,rfl⟩,?_⟩
      simp only [intOf]
      omega
    · simp only [zW,zX,zD,builtinA,isLeaf,const1,ustrA,simprocAttr,ti3,ti78,ti304,ca221,cf,Tryz.results131]
end Go.Proofs.YtnjdbgiincliaaaGreat
/- From a law's argument, a list of items of a structure, to data. -/
set_option linter.unusedVariables false
set_option linter.unusedSimpArgs false
namespace Go.Proofs.YtnjdbgiincliaaaGreat
open Go.Abs Go.RowKit Go.ChangeShapes Go.WideShapes Go.ChangeAt Go.ChangeMaps
def ItsOk (l : List ItI) : Prop:=l.length < 2 ^ 63 ∧ ∀ x ∈ l,x.Ok
theorem cJ : Tryz.prog.cellsOf 300 = 15:=by kernel_rfl
theorem cJS : Tryz.prog.cellsOf 72 = 1:=by kernel_rfl
theorem fifteen {α : Type} {l : List α} (h : l.length = 15) : ∃ a b c d e f g i j k m n p q r,l = [a,b,c,d,e,f,g,i,j,k,m,n,p,q,r]:=by
  match l,h with
  | [a,b,c,d,e,f,g,i,j,k,m,n,p,q,r],_=>exact ⟨a,b,c,d,e,f,g,i,j,k,m,n,p,q,r,rfl⟩
theorem it_of {cz : List AV} (h : Cells Tryz.prog 300 cz) : ∃ x : ItI,cz = iEA x ∧ x.Ok:=by
  generalize ht : 300 = t at h
  cases h with
  | int h1 h2=>subst ht; rw [Tryz.underlying300] at h1; injection h1 with h1; cases h1
  | bool h1=>subst ht; rw [Tryz.underlying300] at h1; injection h1 with h1; cases h1
  | str h1=>subst ht; rw [Tryz.underlying300] at h1; injection h1 with h1; cases h1
  | slice h1 h2 h3=>subst ht; rw [Tryz.underlying300] at h1; injection h1 with h1; cases h1
  | @struct t fs cs h1 h2 h3 =>
    subst ht
    rw [Tryz.underlying300] at h1
    injection h1 with h1
    injection h1 with h1
    subst h1
    rw [cJ] at h2
    obtain ⟨a,b,c,d,e,f,g,i,j,k,m,n,p,q,r,rfl⟩:=fifteen h2
    simp only [List.mem_cons,List.not_mem_nil,or_false,forall_eq_or_imp,forall_eq,c3,c9,cS,cT,cX,List.drop_zero,List.drop_succ_cons,List.take_succ_cons,List.take_zero] at h3
    obtain ⟨n',e1⟩:=cells_int Tryz.underlying3 h3.1
    obtain ⟨m',e2,l2⟩:=cells_str Tryz.underlying9 h3.2.1
    obtain ⟨τ,e3,l3⟩:=(ty_of h3.2.2.1).1 rfl
    obtain ⟨⟨xk,xi,xm,xn,xt,xs⟩,e4,l4⟩:=(ex_of h3.2.2.2).1 rfl
    injection e1 with e1; injection e2 with e2
    subst e1; subst e2
    have hm : maxLen = 2 ^ 63 - 1:=rfl
    refine ⟨⟨n',m',τ,xk,xi,xm,xn,xt,xs⟩,?_,by show m'.length < 2 ^ 63; omega,l3,l4⟩
    rw [encTA4] at e3
    rw [encXA] at e4
    simp only [List.cons.injEq,and_true] at e3 e4
    obtain ⟨rfl,rfl,rfl,rfl⟩:=e3
    obtain ⟨rfl,rfl,rfl,rfl,rfl,rfl,rfl,rfl,rfl⟩:=e4
    rfl
theorem its_of {cz : List AV} (h : Cells Tryz.prog 72 cz) : ∃ l,cz = [.aslice (iEAs l)] ∧ ItsOk l:=by
  generalize ht : 72 = t at h
  cases h with
  | int h1 h2=>subst ht; rw [Tryz.underlying72] at h1; injection h1 with h1; cases h1
  | bool h1=>subst ht; rw [Tryz.underlying72] at h1; injection h1 with h1; cases h1
  | str h1=>subst ht; rw [Tryz.underlying72] at h1; injection h1 with h1; cases h1
  | slice h1 h2 h3 =>
    subst ht
    rw [Tryz.underlying72] at h1
    injection h1 with h1
    injection h1 with h1
    subst h1
    obtain ⟨ks,k1,k2,k3⟩:=list_enc (f:=iEA) (Q:=ItI.Ok) fun r hr=>it_of (h3 r hr)
    have hm : maxLen = 2 ^ 63 - 1:=rfl
    refine ⟨ks,by rw [iEAs,k1],?_,k3⟩
    rw [k2]; omega
  | @struct t fs cs h1 h2 h3=>subst ht; rw [Tryz.underlying72] at h1; injection h1 with h1; cases h1
section
variable {H : Type} {enc' : TypeId × Value → H} {W : World}
end
end Go.Proofs.YtnjdbgiincliaaaGreat
/- Units as data, what the laws' helpers do with them, and a law's argument that is a unit. -/
set_option linter.unusedVariables false
set_option linter.unusedSimpArgs false
namespace Go.Proofs.YtnjdbgiincliaaaGreat
open Go.Abs Go.RowKit Go.ChangeShapes Go.WideShapes Go.ChangeAt Go.ChangeMaps
structure UnI where
  name : List UInt8
  params : List ImI
  body : List ItI
  face : List SigI
def uE (x : UnI) : List AV:=[.str x.name,.slice (pEs x.params),.slice (iEs x.body),.slice (sEs x.face)]
def uEA (x : UnI) : List AV:=[.str x.name,.aslice (pEAs x.params),.aslice (iEAs x.body),.aslice (sEAs x.face)]
def szUp (x : UnI) : Nat:=x.name.length + (x.params.length + szPs x.params)
def szUb (x : UnI) : Nat:=szUp x + (x.body.length + szJs x.body)
def szU (x : UnI) : Nat:=szUb x + (x.face.length + szIs x.face)
def UnI.Ok (x : UnI) : Prop:=x.name.length < 2 ^ 63 ∧ ImsOk x.params ∧ ItsOk x.body ∧ SigsOk x.face
theorem left_add {l : Int} {a b : Nat} (h : ((a : Nat) : Int) ≤ l) : left (l - (a : Nat)) b = left l (a + b):=by
  unfold left
  by_cases h2 : ((b : Nat) : Int) ≤ l - (a : Nat)
  · rw [if_pos h2,if_pos (by omega)]; omega
  · rw [if_neg h2,if_neg (by omega)]
theorem left_yes {l : Int} {a : Nat} (h : ((a : Nat) : Int) ≤ l) : left l a = l - (a : Nat):=by unfold left; rw [if_pos h]
theorem left_no {l : Int} {a : Nat} (h : ¬ ((a : Nat) : Int) ≤ l) : left l a = -1:=by unfold left; rw [if_neg h]
set_option maxRecDepth 100000 in
theorem laws_szUnit (x : UnI) (hx : x.Ok) (l : Int) (A : List Box) (h0 : 0 ≤ l) (h1 : l ≤ 1048576) :
    ACalls Tryz.prog 44 [.agg (uEA x),.int .i64 l] A (fun v A'=>v = .int .i64 (left l (szU x)) ∧ A' = A):=by
  have hw : IntKind.i64.wrap (l - ↑x.name.length) = l - x.name.length:=wrap64 (by have:=hx.1; omega) (by have:=hx.1; omega)
  obtain ⟨hx1,hx2,hx3,hx4⟩:=hx
  rw [uEA]
  refine acalls_enter (cf:=cf 31 [0,1,2,4,11,17,23,29]) foll Tryz.func44 Tryz.ntmps44 (by simp [cf]) ?_
  simp only [Tryz.f44,EnterK_some,zW,zX,zD,builtinA,isLeaf,const1,ustrA,simprocAttr,ti3,ti9,ti46,ti71,ti72,ti74,ti134,ti297,ti300,ca22,ca122,ca123,cf,Tryz.results44]
  rw [hw]
  refine condK_intro (fun h=>?_) (fun h=>?_)
  · simp only [decide_eq_true_eq] at h
    simp only [zW,zX,zD,builtinA,isLeaf,const1,ustrA,simprocAttr,ti3,ti9,ti46,ti71,ti72,ti74,ti134,ti297,ti300,ca22,ca122,ca123,cf,Tryz.results44]
    rw [left_no (by unfold szU szUb szUp; omega)]
  · simp only [decide_eq_false_iff_not] at h
    have hl1:=left_add (l:=l) (a:=x.name.length) (b:=x.params.length + szPs x.params) (by omega)
    have e1 : x.name.length + (x.params.length + szPs x.params) = szUp x:=rfl
    rw [e1] at hl1
    simp only [zW,zX,zD,builtinA,isLeaf,const1,ustrA,simprocAttr,ti3,ti9,ti46,ti71,ti72,ti74,ti134,ti297,ti300,ca22,ca122,ca123,cf,Tryz.results44]
    refine callK_intro (by simp only [zW,zX,zD,builtinA,isLeaf,const1,ustrA,simprocAttr,Option.map_some]; rfl) (laws_szImportS x.params hx2.1 hx2.2 _ _ (by omega) (by omega)) ?_ rfl; rintro v A' ⟨rfl,rfl⟩
    rw [hl1]
    by_cases hf : ((szUp x : Nat) : Int) ≤ l
    · have hl2:=left_add (l:=l) (a:=szUp x) (b:=x.body.length + szJs x.body) hf
      have e2 : szUp x + (x.body.length + szJs x.body) = szUb x:=rfl
      rw [e2] at hl2
      have hn : decide (l - szUp x < 0) = false:=by simp only [decide_eq_false_iff_not]; omega
      rw [left_yes hf]
      simp only [zW,zX,zD,builtinA,isLeaf,const1,ustrA,simprocAttr,ti3,ti9,ti46,ti71,ti72,ti74,ti134,ti297,ti300,ca22,ca122,ca123,cf,Tryz.results44,hn]
      refine callK_intro (by simp only [zW,zX,zD,builtinA,isLeaf,const1,ustrA,simprocAttr,Option.map_some]; rfl) (laws_szItemS x.body hx3.1 hx3.2 _ _ (by omega) (by omega)) ?_ rfl; rintro v A' ⟨rfl,rfl⟩
      rw [hl2]
      by_cases hg : ((szUb x : Nat) : Int) ≤ l
      · have hl3:=left_add (l:=l) (a:=szUb x) (b:=x.face.length + szIs x.face) hg
        have e3 : szUb x + (x.face.length + szIs x.face) = szU x:=rfl
        rw [e3] at hl3
        have hn2 : decide (l - szUb x < 0) = false:=by simp only [decide_eq_false_iff_not]; omega
        rw [left_yes hg]
        simp only [zW,zX,zD,builtinA,isLeaf,const1,ustrA,simprocAttr,ti3,ti9,ti46,ti71,ti72,ti74,ti134,ti297,ti300,ca22,ca122,ca123,cf,Tryz.results44,hn2]
        refine callK_intro (by simp only [zW,zX,zD,builtinA,isLeaf,const1,ustrA,simprocAttr,Option.map_some]; rfl) (laws_szSigItemS x.face hx4.1 hx4.2 _ _ (by omega) (by omega)) ?_ rfl; rintro v A' ⟨rfl,rfl⟩
        rw [hl3]
        by_cases hh : ((szU x : Nat) : Int) ≤ l
        · have hn3 : decide (l - szU x < 0) = false:=by simp only [decide_eq_false_iff_not]; omega
          rw [left_yes hh]
          simp only [zW,zX,zD,builtinA,isLeaf,const1,ustrA,simprocAttr,ti3,ti9,ti46,ti71,ti72,ti74,ti134,ti297,ti300,ca22,ca122,ca123,cf,Tryz.results44,hn3]
        · rw [left_no hh]
          simp only [zW,zX,zD,builtinA,isLeaf,const1,ustrA,simprocAttr,ti3,ti9,ti46,ti71,ti72,ti74,ti134,ti297,ti300,ca22,ca122,ca123,cf,Tryz.results44]
      · rw [left_no hg,left_no (a:=szU x) (by unfold szU; omega)]
        simp only [zW,zX,zD,builtinA,isLeaf,const1,ustrA,simprocAttr,ti3,ti9,ti46,ti71,ti72,ti74,ti134,ti297,ti300,ca22,ca122,ca123,cf,Tryz.results44]
    · rw [left_no hf,left_no (a:=szU x) (by unfold szU szUb; omega)]
      simp only [zW,zX,zD,builtinA,isLeaf,const1,ustrA,simprocAttr,ti3,ti9,ti46,ti71,ti72,ti74,ti134,ti297,ti300,ca22,ca122,ca123,cf,Tryz.results44]
set_option maxRecDepth 100000 in
theorem laws_toUnit (x : UnI) (hx : szU x ≤ 1048576) (A : List Box) : ACalls Tryz.prog 46 [.agg (uEA x)] A (fun v A'=>v = .agg (uE x) ∧ A' = A):=by
  have h1 : (x.params.length ≤ 1048576 ∧ szPs x.params ≤ 1048576) ∧ (x.body.length ≤ 1048576 ∧ szJs x.body ≤ 1048576) ∧ (x.face.length ≤ 1048576 ∧ szIs x.face ≤ 1048576):=by unfold szU szUb szUp at hx; omega
  rw [uEA,uE]
  refine acalls_enter (cf:=cf 20 [0,1,2,3]) foll Tryz.func46 Tryz.ntmps46 (by simp [cf]) ?_
  simp only [Tryz.f46,EnterK_some,zW,zX,zD,builtinA,isLeaf,const1,ustrA,simprocAttr,ti9,ti46,ti50,ti69,ti71,ti72,ti74,ti77,ti78,ti80,ti134,ti194,ti297,ti300,ti304,ca24,ca126,ca127,cf,Tryz.results46]
  refine callK_intro (by simp only [zW,zX,zD,builtinA,isLeaf,const1,ustrA,simprocAttr,Option.map_some]; rfl) (laws_toImportS x.params h1.1.1 h1.1.2 _) ?_ rfl; rintro v A' ⟨rfl,rfl⟩
  simp only [zW,zX,zD,builtinA,isLeaf,const1,ustrA,simprocAttr,ti9,ti46,ti50,ti69,ti71,ti72,ti74,ti77,ti78,ti80,ti134,ti194,ti297,ti300,ti304,ca24,ca126,ca127,cf,Tryz.results46]
  refine callK_intro (by simp only [zW,zX,zD,builtinA,isLeaf,const1,ustrA,simprocAttr,Option.map_some]; rfl) (laws_toItemS x.body h1.2.1.1 h1.2.1.2 _) ?_ rfl; rintro v A' ⟨rfl,rfl⟩
  simp only [zW,zX,zD,builtinA,isLeaf,const1,ustrA,simprocAttr,ti9,ti46,ti50,ti69,ti71,ti72,ti74,ti77,ti78,ti80,ti134,ti194,ti297,ti300,ti304,ca24,ca126,ca127,cf,Tryz.results46]
  refine callK_intro (by simp only [zW,zX,zD,builtinA,isLeaf,const1,ustrA,simprocAttr,Option.map_some]; rfl) (laws_toSigItemS x.face h1.2.2.1 h1.2.2.2 _) ?_ rfl; rintro v A' ⟨rfl,rfl⟩
  simp only [zW,zX,zD,builtinA,isLeaf,const1,ustrA,simprocAttr,ti9,ti46,ti50,ti69,ti71,ti72,ti74,ti77,ti78,ti80,ti134,ti194,ti297,ti300,ti304,ca24,ca126,ca127,cf,Tryz.results46]
set_option maxRecDepth 100000 in
theorem laws_eqUnit (x : UnI) (hx : x.Ok) (A : List Box) : ACalls Tryz.prog 48 [.agg (uE x),.agg (uE x)] A (fun v A'=>v = .bool true ∧ A' = A):=by
  obtain ⟨hx1,hx2,hx3,hx4⟩:=hx
  rw [uE]
  refine acalls_enter (cf:=cf 28 [0,1,2,3,4,9,15,21,27]) foll Tryz.func48 Tryz.ntmps48 (by simp [cf]) ?_
  simp only [Tryz.f48,EnterK_some,zW,zX,zD,builtinA,isLeaf,const1,ustrA,simprocAttr,ti9,ti50,ti69,ti77,ti78,ti80,ti194,ti304,ca27,ca130,ca131,cf,Tryz.results48]
  refine callK_intro (by simp only [zW,zX,zD,builtinA,isLeaf,const1,ustrA,simprocAttr,Option.map_some]; rfl) (laws_eqImportS x.params hx2.1 hx2.2 _) ?_ rfl; rintro v A' ⟨rfl,rfl⟩
  simp only [zW,zX,zD,builtinA,isLeaf,const1,ustrA,simprocAttr,ti9,ti50,ti69,ti77,ti78,ti80,ti194,ti304,ca27,ca130,ca131,cf,Tryz.results48]
  refine callK_intro (by simp only [zW,zX,zD,builtinA,isLeaf,const1,ustrA,simprocAttr,Option.map_some]; rfl) (laws_eqItemS x.body hx3.1 hx3.2 _) ?_ rfl; rintro v A' ⟨rfl,rfl⟩
  simp only [zW,zX,zD,builtinA,isLeaf,const1,ustrA,simprocAttr,ti9,ti50,ti69,ti77,ti78,ti80,ti194,ti304,ca27,ca130,ca131,cf,Tryz.results48]
  refine callK_intro (by simp only [zW,zX,zD,builtinA,isLeaf,const1,ustrA,simprocAttr,Option.map_some]; rfl) (laws_eqSigItemS x.face hx4.1 hx4.2 _) ?_ rfl; rintro v A' ⟨rfl,rfl⟩
  simp only [zW,zX,zD,builtinA,isLeaf,const1,ustrA,simprocAttr,ti9,ti50,ti69,ti77,ti78,ti80,ti194,ti304,ca27,ca130,ca131,cf,Tryz.results48]
theorem cU : Tryz.prog.cellsOf 74 = 4:=by kernel_rfl
theorem four_of {α : Type} {l : List α} (h : l.length = 4) : ∃ a b c d,l = [a,b,c,d]:=by
  match l,h with
  | [a,b,c,d],_=>exact ⟨a,b,c,d,rfl⟩
theorem un_of {cz : List AV} (h : Cells Tryz.prog 74 cz) : ∃ x : UnI,cz = uEA x ∧ x.Ok:=by
  generalize ht : 74 = t at h
  cases h with
  | int h1 h2=>subst ht; rw [Tryz.underlying74] at h1; injection h1 with h1; cases h1
  | bool h1=>subst ht; rw [Tryz.underlying74] at h1; injection h1 with h1; cases h1
  | str h1=>subst ht; rw [Tryz.underlying74] at h1; injection h1 with h1; cases h1
  | slice h1 h2 h3=>subst ht; rw [Tryz.underlying74] at h1; injection h1 with h1; cases h1
  | @struct t fs cs h1 h2 h3 =>
    subst ht
    rw [Tryz.underlying74] at h1
    injection h1 with h1
    injection h1 with h1
    subst h1
    rw [cU] at h2
    obtain ⟨a,b,c,d,rfl⟩:=four_of h2
    simp only [List.mem_cons,List.not_mem_nil,or_false,forall_eq_or_imp,forall_eq,c3,c9,cS,cT,cIS,cPS,cJS,List.drop_zero,List.drop_succ_cons,List.take_succ_cons,List.take_zero] at h3
    obtain ⟨m,e1,l1⟩:=cells_str Tryz.underlying9 h3.1
    obtain ⟨ps,e2,l2⟩:=pms_of h3.2.1
    obtain ⟨bs,e3,l3⟩:=its_of h3.2.2.1
    obtain ⟨fs,e4,l4⟩:=sis_of h3.2.2.2
    injection e1 with e1; injection e2 with e2; injection e3 with e3; injection e4 with e4
    subst e1; subst e2; subst e3; subst e4
    have hm : maxLen = 2 ^ 63 - 1:=rfl
    exact ⟨⟨m,ps,bs,fs⟩,rfl,⟨by show m.length < 2 ^ 63; omega,l2,l3,l4⟩⟩
section
variable {H : Type} {enc' : TypeId × Value → H} {W : World}
end
end Go.Proofs.YtnjdbgiincliaaaGreat
