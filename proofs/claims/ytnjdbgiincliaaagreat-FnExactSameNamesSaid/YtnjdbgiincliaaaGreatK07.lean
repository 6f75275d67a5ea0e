/- Decls, ExVal. -/
import Derived.Test.YtnjdbgiincliaaaGreatK06
import Derived.Test.YtnjdbgiincliaaaGreatAbsW3
/- Declarations and programs as data, what the laws' helpers do with them, and a law's argument that is a program. -/
set_option linter.unusedVariables false
set_option linter.unusedSimpArgs false
namespace Go.Proofs.YtnjdbgiincliaaaGreat
open Go.Abs Go.RowKit Go.ChangeShapes Go.WideShapes Go.ChangeAt Go.ChangeMaps
structure DeI where
  un : UnI
  made : List UInt8
  functor : List UInt8
  args : Nms
def de0 : DeI:=⟨⟨[],[],[],[]⟩,[],[],[]⟩
def dE (x : DeI) : List AV:=[.str x.un.name,.slice (pEs x.un.params),.slice (iEs x.un.body),.slice (sEs x.un.face),.str x.made,.str x.functor,.slice (aEs x.args)]
def dEA (x : DeI) : List AV:=[.str x.un.name,.aslice (pEAs x.un.params),.aslice (iEAs x.un.body),.aslice (sEAs x.un.face),.str x.made,.str x.functor,.aslice (aEs x.args)]
def dEs (l : List DeI) : List (List AV):=l.map dE
def dEAs (l : List DeI) : List (List AV):=l.map dEA
def szD1 (x : DeI) : Nat:=szU x.un + x.made.length
def szD2 (x : DeI) : Nat:=szD1 x + x.functor.length
def szD (x : DeI) : Nat:=szD2 x + (x.args.length + szNs x.args)
def szDs (l : List DeI) : Nat:=(l.map szD).sum
def DeI.Ok (x : DeI) : Prop:=x.un.Ok ∧ x.made.length < 2 ^ 63 ∧ x.functor.length < 2 ^ 63 ∧ NsOk x.args
def zde : List AV:=[.str [],.slice [],.slice [],.slice [],.str [],.str [],.slice []]
theorem dE_length (x : DeI) : (dE x).length = 7:=rfl
theorem dEA_length (x : DeI) : (dEA x).length = 7:=rfl
theorem dE_take (x : DeI) : List.take 7 (dE x) = dE x:=rfl
theorem dEA_take (x : DeI) : List.take 7 (dEA x) = dEA x:=rfl
theorem dE_leaf (x : DeI) : ∀ v ∈ dE x,isLeaf v = true:=by simp [dE,isLeaf]
theorem frzL_dE (x : DeI) (A : List Box) : frzL (dE x) A = some (dE x,A):=rfl
theorem frzL_dEA (x : DeI) (A : List Box) : frzL (dEA x) A = some (dEA x,A):=rfl
theorem dEs_length (l : List DeI) : (dEs l).length = l.length:=by simp [dEs]
theorem dEAs_length (l : List DeI) : (dEAs l).length = l.length:=by simp [dEAs]
theorem dEs_getD {l : List DeI} {i : Nat} (h : i < l.length) : (dEs l).getD i [] = dE (l.getD i de0):=by simp [dEs,List.getD,h]
theorem dEAs_getD {l : List DeI} {i : Nat} (h : i < l.length) : (dEAs l).getD i [] = dEA (l.getD i de0):=by simp [dEAs,List.getD,h]
theorem de_mem {l : List DeI} {i : Nat} (h : i < l.length) : l.getD i de0 ∈ l:=by simp [List.getD,h]
theorem de_take {l : List DeI} {i : Nat} (h : i < l.length) : l.take (i + 1) = l.take i ++ [l.getD i de0]:=by
  rw [List.take_add_one]; simp [List.getD,h]
theorem szDs_take {l : List DeI} {i : Nat} (h : i < l.length) : szDs (l.take (i + 1)) = szDs (l.take i) + szD (l.getD i de0):=by
  rw [de_take h]; simp [szDs]
theorem szDs_le (l : List DeI) (i : Nat) : szDs (l.take i) ≤ szDs l:=by
  have h : szDs l = szDs (l.take i) + szDs (l.drop i):=by
    conv=>lhs; rw [← List.take_append_drop i l]
    simp only [szDs,List.map_append,List.sum_append]
  omega
theorem szDs_mem {x : DeI} {l : List DeI} (h : x ∈ l) : szD x ≤ szDs l:=by
  induction l with
  | nil=>simp at h
  | cons y l ih =>
    simp only [szDs,List.map_cons,List.sum_cons] at ih ⊢
    rcases List.mem_cons.1 h with rfl | h
    · omega
    · have:=ih h; omega
set_option maxRecDepth 100000 in
theorem laws_szDecl (x : DeI) (hx : x.Ok) (l : Int) (A : List Box) (h0 : 0 ≤ l) (h1 : l ≤ 1048576) :
    ACalls Tryz.prog 50 [.agg (dEA x),.int .i64 l] A (fun v A'=>v = .int .i64 (left l (szD x)) ∧ A' = A):=by
  obtain ⟨hx1,hx2,hx3,hx4⟩:=hx
  have hsu:=fun A=>laws_szUnit x.un hx1 l A h0 h1
  rw [uEA] at hsu
  rw [dEA]
  refine acalls_enter (cf:=cf 32 [0,1,2,4,10,17,24,30]) foll Tryz.func50 Tryz.ntmps50 (by simp [cf]) ?_
  simp only [Tryz.f50,EnterK_some,zW,zX,zD,builtinA,isLeaf,const1,ustrA,simprocAttr,ti3,ti9,ti48,ti74,ti86,ca44,ca134,cf,Tryz.results50]
  refine callK_intro (by simp only [zW,zX,zD,builtinA,isLeaf,const1,ustrA,simprocAttr,Option.map_some]; rfl) (hsu _) ?_ rfl; rintro v A' ⟨rfl,rfl⟩
  by_cases hf : ((szU x.un : Nat) : Int) ≤ l
  · have hn : decide (l - szU x.un < 0) = false:=by simp only [decide_eq_false_iff_not]; omega
    have hw1 : IntKind.i64.wrap (l - (szU x.un : Nat) - ↑x.made.length) = l - (szD1 x : Nat):=by rw [wrap64 (by omega) (by omega)]; unfold szD1; omega
    rw [left_yes hf]
    simp only [zW,zX,zD,builtinA,isLeaf,const1,ustrA,simprocAttr,ti3,ti9,ti48,ti74,ti86,ca44,ca134,cf,Tryz.results50,hn,hw1]
    by_cases hg : ((szD1 x : Nat) : Int) ≤ l
    · have hn1 : decide (l - szD1 x < 0) = false:=by simp only [decide_eq_false_iff_not]; omega
      have hw2 : IntKind.i64.wrap (l - (szD1 x : Nat) - ↑x.functor.length) = l - (szD2 x : Nat):=by rw [wrap64 (by omega) (by omega)]; unfold szD2; omega
      simp only [zW,zX,zD,builtinA,isLeaf,const1,ustrA,simprocAttr,ti3,ti9,ti48,ti74,ti86,ca44,ca134,cf,Tryz.results50,hn1,hw2]
      by_cases hh : ((szD2 x : Nat) : Int) ≤ l
      · have hn2 : decide (l - szD2 x < 0) = false:=by simp only [decide_eq_false_iff_not]; omega
        have hl3:=left_add (l:=l) (a:=szD2 x) (b:=x.args.length + szNs x.args) hh
        have e3 : szD2 x + (x.args.length + szNs x.args) = szD x:=rfl
        rw [e3] at hl3
        simp only [zW,zX,zD,builtinA,isLeaf,const1,ustrA,simprocAttr,ti3,ti9,ti48,ti74,ti86,ca44,ca134,cf,Tryz.results50,hn2]
        refine callK_intro (by simp only [zW,zX,zD,builtinA,isLeaf,const1,ustrA,simprocAttr,Option.map_some]; rfl) (laws_szStringS x.args hx4.1 hx4.2 _ _ (by omega) (by omega)) ?_ rfl; rintro v A' ⟨rfl,rfl⟩
        rw [hl3]
        by_cases hk : ((szD x : Nat) : Int) ≤ l
        · have hn3 : decide (l - szD x < 0) = false:=by simp only [decide_eq_false_iff_not]; omega
          rw [left_yes hk]
          simp only [zW,zX,zD,builtinA,isLeaf,const1,ustrA,simprocAttr,ti3,ti9,ti48,ti74,ti86,ca44,ca134,cf,Tryz.results50,hn3]
        · rw [left_no hk]
          simp only [zW,zX,zD,builtinA,isLeaf,const1,ustrA,simprocAttr,ti3,ti9,ti48,ti74,ti86,ca44,ca134,cf,Tryz.results50]
      · have hn2 : decide (l - szD2 x < 0) = true:=by simp only [decide_eq_true_eq]; omega
        rw [left_no (a:=szD x) (by unfold szD; omega)]
        simp only [zW,zX,zD,builtinA,isLeaf,const1,ustrA,simprocAttr,ti3,ti9,ti48,ti74,ti86,ca44,ca134,cf,Tryz.results50,hn2]
    · have hn1 : decide (l - szD1 x < 0) = true:=by simp only [decide_eq_true_eq]; omega
      rw [left_no (a:=szD x) (by unfold szD szD2; omega)]
      simp only [zW,zX,zD,builtinA,isLeaf,const1,ustrA,simprocAttr,ti3,ti9,ti48,ti74,ti86,ca44,ca134,cf,Tryz.results50,hn1]
  · rw [left_no hf,left_no (a:=szD x) (by unfold szD szD2 szD1; omega)]
    simp only [zW,zX,zD,builtinA,isLeaf,const1,ustrA,simprocAttr,ti3,ti9,ti48,ti74,ti86,ca44,ca134,cf,Tryz.results50]
set_option maxRecDepth 100000 in
theorem laws_szDeclS (ks : List DeI) (hl : ks.length < 2 ^ 63) (hk : ∀ t ∈ ks,t.Ok) (l : Int) (A : List Box) (h0 : 0 ≤ l) (h1 : l ≤ 1048576) :
    ACalls Tryz.prog 77 [.aslice (dEAs ks),.int .i64 l] A (fun v A'=>v = .int .i64 (left l (ks.length + szDs ks)) ∧ A' = A):=by
  have hw : IntKind.i64.wrap (l - ↑(dEAs ks).length) = l - ks.length:=by rw [dEAs_length]; exact wrap64 (by omega) (by omega)
  refine acalls_enter (cf:=cf 27 [0,1,4,5,11,15,25]) foll Tryz.func77 Tryz.ntmps77 (by simp [cf]) ?_
  simp only [Tryz.f77,EnterK_some,zW,zX,zD,builtinA,isLeaf,const1,ustrA,simprocAttr,ti3,ti22,ti86,ca50,cf,Tryz.results77]
  rw [hw]
  refine condK_intro (fun h=>?_) (fun h=>?_)
  · simp only [zW,zX,zD,builtinA,isLeaf,const1,ustrA,simprocAttr,ti3,ti22,ti86,ca50,cf,Tryz.results77]
    have : ¬ ((ks.length + szDs ks : Nat) : Int) ≤ l:=by simp at h; omega
    rw [left,if_neg this]
  · simp only [zW,zX,zD,builtinA,isLeaf,const1,ustrA,simprocAttr,ti3,ti22,ti86,ca50,cf,Tryz.results77]
    refine aloop_intro [0,1,5] (fun e A'=>∃ i,i ≤ ks.length ∧ ((ks.length + szDs (ks.take i) : Nat) : Int) ≤ l ∧ e = [(0,.aslice (dEAs ks)),(1,.int .i64 (l - (ks.length + szDs (ks.take i) : Nat))),(5,.int .i64 i)] ∧ A' = A) (fun e _=>ks.length - (intOf (Abs.look 5 e)).toNat) ?_ ?_
    · refine ⟨0,by omega,?_,?_,rfl⟩
      · simp at h; simp [szDs]; omega
      · simp only [zW,zX,zD,builtinA,isLeaf,const1,ustrA,simprocAttr,ti3,ti22,ti86,ca50,cf,Tryz.results77]
        simp [szDs]
    · rintro e A' ⟨i,hi,hle,rfl,rfl⟩
      simp only [zW,zX,zD,builtinA,isLeaf,const1,ustrA,simprocAttr,ti3,ti22,ti86,ca50,cf,Tryz.results77]
      refine condK_intro (fun h2=>?_) (fun h2=>?_)
      · have hi2 : i < ks.length:=by simp [dEAs_length] at h2; exact h2
        have he:=dEAs_getD hi2
        have hm:=de_mem hi2
        have hs:=szDs_take hi2
        simp only [zW,zX,zD,builtinA,isLeaf,const1,ustrA,simprocAttr,ti3,ti22,ti86,ca50,cf,Tryz.results77,he,dEA_length,dEA_take,dEAs_length]
        refine ⟨⟨by omega,by omega⟩,?_⟩
        refine callK_intro (by simp only [zW,zX,zD,builtinA,isLeaf,const1,ustrA,simprocAttr,frzL_dEA,Option.map_some]; rfl) (laws_szDecl _ (hk _ hm) _ _ (by omega) (by omega)) ?_ rfl; rintro v A' ⟨rfl,rfl⟩
        by_cases hf : ((ks.length + szDs (ks.take (i + 1)) : Nat) : Int) ≤ l
        · have hv : left (l - ((ks.length + szDs (ks.take i) : Nat) : Int)) (szD (ks.getD i de0)) = l - ((ks.length + szDs (ks.take (i + 1)) : Nat) : Int):=by
            rw [left,if_pos (by omega)]; omega
          have hn : decide (l - ((ks.length + szDs (ks.take (i + 1)) : Nat) : Int) < 0) = false:=by simp only [decide_eq_false_iff_not]; omega
          have hi1 : IntKind.i64.wrap ((i : Int) + 1) = ((i + 1 : Nat) : Int):=by rw [wrap64 (by omega) (by omega)]; rfl
          rw [hv]
          simp only [zW,zX,zD,builtinA,isLeaf,const1,ustrA,simprocAttr,ti3,ti22,ti86,ca50,cf,Tryz.results77,hn,hi1,LoopK_eq,dEAs_length]
          refine ⟨⟨i + 1,by omega,hf,rfl⟩,?_⟩
          simp only [intOf]
          omega
        · have hv : left (l - ((ks.length + szDs (ks.take i) : Nat) : Int)) (szD (ks.getD i de0)) = -1:=by
            rw [left,if_neg (by omega)]
          have hz:=szDs_le ks (i + 1)
          rw [hv,left,if_neg (by omega)]
          simp only [zW,zX,zD,builtinA,isLeaf,const1,ustrA,simprocAttr,ti3,ti22,ti86,ca50,cf,Tryz.results77]
      · simp only [zW,zX,zD,builtinA,isLeaf,const1,ustrA,simprocAttr,ti3,ti22,ti86,ca50,cf,Tryz.results77]
        have : i = ks.length:=by simp [dEAs_length] at h2; omega
        subst this
        rw [List.take_length] at hle ⊢
        rw [left,if_pos hle]
set_option maxRecDepth 100000 in
theorem laws_toDecl (x : DeI) (hx : szD x ≤ 1048576) (A : List Box) : ACalls Tryz.prog 52 [.agg (dEA x)] A (fun v A'=>v = .agg (dE x) ∧ A' = A):=by
  have h1 : szU x.un ≤ 1048576 ∧ x.args.length ≤ 1048576:=by unfold szD szD2 szD1 at hx; omega
  have htu:=fun A=>laws_toUnit x.un h1.1 A
  rw [uEA,uE] at htu
  rw [dEA,dE]
  refine acalls_enter (cf:=cf 19 [0,1,2,3]) foll Tryz.func52 Tryz.ntmps52 (by simp [cf]) ?_
  simp only [Tryz.f52,EnterK_some,zW,zX,zD,builtinA,isLeaf,const1,ustrA,simprocAttr,ti9,ti48,ti74,ti80,ti86,ti90,ca46,ca136,cf,Tryz.results52]
  refine callK_intro (by simp only [zW,zX,zD,builtinA,isLeaf,const1,ustrA,simprocAttr,Option.map_some]; rfl) (htu _) ?_ rfl; rintro v A' ⟨rfl,rfl⟩
  simp only [zW,zX,zD,builtinA,isLeaf,const1,ustrA,simprocAttr,ti9,ti48,ti74,ti80,ti86,ti90,ca46,ca136,cf,Tryz.results52]
  refine callK_intro (by simp only [zW,zX,zD,builtinA,isLeaf,const1,ustrA,simprocAttr,Option.map_some]; rfl) (laws_toStringS x.args h1.2 _) ?_ rfl; rintro v A' ⟨rfl,rfl⟩
  simp only [zW,zX,zD,builtinA,isLeaf,const1,ustrA,simprocAttr,ti9,ti48,ti74,ti80,ti86,ti90,ca46,ca136,cf,Tryz.results52]
theorem drow_step {l : List DeI} {i : Nat} (h : i < l.length) : (dEs (l.take i) ++ List.replicate (l.length - i) zde).set i (dE (l.getD i de0) ++ List.drop 7 ((dEs (l.take i) ++ List.replicate (l.length - i) zde).getD i [])) = dEs (l.take (i + 1)) ++ List.replicate (l.length - (i + 1)) zde:=by
  have e1 : (dEs (l.take i)).length = i:=by rw [dEs_length]; simp; omega
  have e2 : List.drop 7 ((dEs (l.take i) ++ List.replicate (l.length - i) zde).getD i []) = []:=by
    have e3 : l.length - i = (l.length - (i + 1)) + 1:=by omega
    rw [List.getD,List.getElem?_append_right (by omega),e1,Nat.sub_self,e3,List.replicate_succ]
    rfl
  have e4 : l.length - i = (l.length - (i + 1)) + 1:=by omega
  rw [e2,List.append_nil,List.set_append_right _ _ (by omega),e1,Nat.sub_self,e4,List.replicate_succ,List.set_cons_zero]
  simp only [dEs]
  rw [List.take_add_one,List.map_append,List.append_assoc]
  simp [List.getD,h]
set_option maxRecDepth 100000 in
theorem laws_toDeclS (ks : List DeI) (hl : ks.length ≤ 1048576) (hk : szDs ks ≤ 1048576) (A : List Box) :
    ACalls Tryz.prog 81 [.aslice (dEAs ks)] A (fun v A'=>v = .slice (dEs ks) ∧ A' = A):=by
  have hl2 : ((dEAs ks).length : Int) ≤ 1048576:=by rw [dEAs_length]; omega
  refine acalls_enter (cf:=cf 23 [0,2,3,4,11]) foll Tryz.func81 Tryz.ntmps81 (by simp [cf]) ?_
  simp only [Tryz.f81,EnterK_some,zW,zX,zD,builtinA,isLeaf,const1,ustrA,simprocAttr,ti3,ti22,ti33,ti86,ti90,ca52,cf,Tryz.results81]
  refine ⟨⟨by omega,by omega,by omega⟩,?_⟩
  refine aloop_intro [0,3,4] (fun e A'=>∃ i,i ≤ ks.length ∧ e = [(0,.aslice (dEAs ks)),(3,.own A.length),(4,.int .i64 i)] ∧ A' = A ++ [.row 7 (dEs (ks.take i) ++ List.replicate (ks.length - i) zde) 0]) (fun e _=>ks.length - (intOf (Abs.look 4 e)).toNat) ?_ ?_
  · simp only [zW,zX,zD,builtinA,isLeaf,const1,ustrA,simprocAttr,ti3,ti22,ti33,ti86,ti90,ca52,cf,Tryz.results81]
    exact ⟨0,by omega,rfl,by rw [dEAs_length]; simp [dEs,zde]⟩
  · rintro e A' ⟨i,hi,rfl,rfl⟩
    simp only [zW,zX,zD,builtinA,isLeaf,const1,ustrA,simprocAttr,ti3,ti22,ti33,ti86,ti90,ca52,cf,Tryz.results81,dEAs_length]
    refine condK_intro (fun h2=>?_) (fun h2=>?_)
    · have hi2 : i < ks.length:=by simpa using h2
      have he:=dEAs_getD hi2
      have hm:=de_mem hi2
      have hzm:=szDs_mem hm
      simp only [zW,zX,zD,builtinA,isLeaf,const1,ustrA,simprocAttr,ti3,ti22,ti33,ti86,ti90,ca52,cf,Tryz.results81,he,dEA_length,dEA_take,dEAs_length]
      refine ⟨⟨by omega,by omega⟩,?_⟩
      refine callK_intro (by simp only [zW,zX,zD,builtinA,isLeaf,const1,ustrA,simprocAttr,frzL_dEA,Option.map_some]; rfl) (laws_toDecl _ (by omega) _) ?_ rfl; rintro v A' ⟨rfl,rfl⟩
      have hi1 : IntKind.i64.wrap ((i : Int) + 1) = ((i + 1 : Nat) : Int):=by rw [wrap64 (by omega) (by omega)]; rfl
      simp only [zW,zX,zD,builtinA,isLeaf,const1,ustrA,simprocAttr,ti3,ti22,ti33,ti86,ti90,ca52,cf,Tryz.results81,dE_length,frzL_dE,drow_step hi2,hi1,LoopK_eq]
      have hlen : (dEs (List.take i ks)).length + (List.replicate (ks.length - i) zde).length = ks.length:=by
        simp [dEs_length]; omega
      rw [hlen]
      refine ⟨⟨by omega,by omega⟩,⟨by omega,by omega,fun v hv=>dE_leaf _ v hv⟩,⟨i + 1,by omega,rfl,rfl⟩,?_⟩
      simp only [intOf]
      omega
    · simp only [zW,zX,zD,builtinA,isLeaf,const1,ustrA,simprocAttr,ti3,ti22,ti33,ti86,ti90,ca52,cf,Tryz.results81]
      have : i = ks.length:=by simp at h2; omega
      subst this
      simp [List.take_length]
set_option maxRecDepth 100000 in
theorem laws_eqDecl (x : DeI) (hx : x.Ok) (A : List Box) : ACalls Tryz.prog 54 [.agg (dE x),.agg (dE x)] A (fun v A'=>v = .bool true ∧ A' = A):=by
  obtain ⟨hx1,hx2,hx3,hx4⟩:=hx
  have heu:=fun A=>laws_eqUnit x.un hx1 A
  rw [uE] at heu
  rw [dE]
  refine acalls_enter (cf:=cf 27 [0,1,2,3,4,10,15,20,26]) foll Tryz.func54 Tryz.ntmps54 (by simp [cf]) ?_
  simp only [Tryz.f54,EnterK_some,zW,zX,zD,builtinA,isLeaf,const1,ustrA,simprocAttr,ti9,ti48,ti80,ti90,ca26,ca48,cf,Tryz.results54]
  refine callK_intro (by simp only [zW,zX,zD,builtinA,isLeaf,const1,ustrA,simprocAttr,Option.map_some]; rfl) (heu _) ?_ rfl; rintro v A' ⟨rfl,rfl⟩
  simp only [zW,zX,zD,builtinA,isLeaf,const1,ustrA,simprocAttr,ti9,ti48,ti80,ti90,ca26,ca48,cf,Tryz.results54]
  refine callK_intro (by simp only [zW,zX,zD,builtinA,isLeaf,const1,ustrA,simprocAttr,Option.map_some]; rfl) (laws_eqStringS x.args hx4.1 _) ?_ rfl; rintro v A' ⟨rfl,rfl⟩
  simp only [zW,zX,zD,builtinA,isLeaf,const1,ustrA,simprocAttr,ti9,ti48,ti80,ti90,ca26,ca48,cf,Tryz.results54]
set_option maxRecDepth 100000 in
theorem laws_eqDeclS (ks : List DeI) (hl : ks.length < 2 ^ 63) (hk : ∀ t ∈ ks,t.Ok) (A : List Box) :
    ACalls Tryz.prog 83 [.slice (dEs ks),.slice (dEs ks)] A (fun v A'=>v = .bool true ∧ A' = A):=by
  refine acalls_enter (cf:=cf 27 [0,1,4,5,10,14,26]) foll Tryz.func83 Tryz.ntmps83 (by simp [cf]) ?_
  simp only [Tryz.f83,EnterK_some,zW,zX,zD,builtinA,isLeaf,const1,ustrA,simprocAttr,ti3,ti33,ti90,ca54,cf,Tryz.results83]
  refine aloop_intro [0,1,5] (fun e A'=>∃ i,i ≤ ks.length ∧ e = [(0,.slice (dEs ks)),(1,.slice (dEs ks)),(5,.int .i64 i)] ∧ A' = A) (fun e _=>ks.length - (intOf (Abs.look 5 e)).toNat) ?_ ?_
  · simp only [zW,zX,zD,builtinA,isLeaf,const1,ustrA,simprocAttr,ti3,ti33,ti90,ca54,cf,Tryz.results83]
    exact ⟨0,by omega,rfl⟩
  · rintro e A' ⟨i,hi,rfl,rfl⟩
    simp only [zW,zX,zD,builtinA,isLeaf,const1,ustrA,simprocAttr,ti3,ti33,ti90,ca54,cf,Tryz.results83,dEs_length]
    refine condK_intro (fun h2=>?_) (fun h2=>?_)
    · have hi2 : i < ks.length:=by simpa using h2
      have he:=dEs_getD hi2
      have hm:=de_mem hi2
      have hi1 : IntKind.i64.wrap ((i : Int) + 1) = ((i + 1 : Nat) : Int):=by rw [wrap64 (by omega) (by omega)]; rfl
      simp only [zW,zX,zD,builtinA,isLeaf,const1,ustrA,simprocAttr,ti3,ti33,ti90,ca54,cf,Tryz.results83,he,dE_length,dE_take,dEs_length]
      refine .inl ⟨by kernel_rfl,by kernel_rfl,⟨by omega,by omega⟩,⟨by omega,by omega⟩,?_⟩
      refine callD_intro (by simp only [zW,zX,zD,builtinA,isLeaf,const1,ustrA,simprocAttr,frzL_dE,Option.map_some] <;> rfl) (laws_eqDecl _ (hk _ hm) _) ?_ rfl
      simp only [zW,zX,zD,builtinA,isLeaf,const1,ustrA,simprocAttr,ti3,ti33,ti90,ca54,cf,Tryz.results83,hi1,LoopK_eq]
      refine ⟨⟨i + 1,by omega,rfl⟩,?_⟩
      simp only [intOf]
      omega
    · simp only [zW,zX,zD,builtinA,isLeaf,const1,ustrA,simprocAttr,ti3,ti33,ti90,ca54,cf,Tryz.results83]
structure PrI where
  decls : List DeI
  main : Ex
def DesOk (l : List DeI) : Prop:=l.length < 2 ^ 63 ∧ ∀ x ∈ l,x.Ok
def PrI.Ok (p : PrI) : Prop:=DesOk p.decls ∧ p.main.Ok
def gE (p : PrI) : List AV:=.slice (dEs p.decls) :: encX p.main
def gEA (p : PrI) : List AV:=.aslice (dEAs p.decls) :: encXA p.main
def szG1 (p : PrI) : Nat:=p.decls.length + szDs p.decls
def szG (p : PrI) : Nat:=szG1 p + szX p.main
theorem gE_length (x : PrI) : (gE x).length = 10:=by simp [gE,encX_length]
theorem gEA_length (x : PrI) : (gEA x).length = 10:=by simp [gEA,encXA_length]
theorem gE_take (x : PrI) : List.take 10 (gE x) = gE x:=List.take_of_length_le (by rw [gE_length]; exact Nat.le_refl _)
theorem gEA_take (x : PrI) : List.take 10 (gEA x) = gEA x:=List.take_of_length_le (by rw [gEA_length]; exact Nat.le_refl _)
theorem frzL_gE (x : PrI) (A : List Box) : frzL (gE x) A = some (gE x,A):=by obtain ⟨d,m⟩:=x; cases m; simp only [gE,encX]; rfl
theorem frzL_gEA (x : PrI) (A : List Box) : frzL (gEA x) A = some (gEA x,A):=by obtain ⟨d,m⟩:=x; cases m; simp only [gEA,encXA]; rfl
set_option maxRecDepth 100000 in
theorem laws_szProgram (p : PrI) (hp : p.Ok) (l : Int) (A : List Box) (h0 : 0 ≤ l) (h1 : l ≤ 1048576) :
    ACalls Tryz.prog 15 [.agg (gEA p),.int .i64 l] A (fun v A'=>v = .int .i64 (left l (szG p)) ∧ A' = A):=by
  obtain ⟨hd,hm⟩:=hp
  rw [gEA]
  refine acalls_enter (cf:=cf 18 [0,1,2,4,10,16]) foll Tryz.func15 Tryz.ntmps15 (by simp [cf]) ?_
  simp only [Tryz.f15,EnterK_some,zW,zX,zD,builtinA,isLeaf,const1,ustrA,simprocAttr,ti3,ti22,ti28,ti30,ti86,ca56,ca77,cf,Tryz.results15]
  refine ⟨by omega,?_⟩
  refine callK_intro (by simp only [zW,zX,zD,builtinA,isLeaf,const1,ustrA,simprocAttr,Option.map_some]; rfl) (laws_szDeclS p.decls hd.1 hd.2 _ _ (by omega) (by omega)) ?_ rfl; rintro v A' ⟨rfl,rfl⟩
  have e1 : p.decls.length + szDs p.decls = szG1 p:=rfl
  rw [e1]
  by_cases hf : ((szG1 p : Nat) : Int) ≤ l
  · have hl2:=left_add (l:=l) (a:=szG1 p) (b:=szX p.main) hf
    have e2 : szG1 p + szX p.main = szG p:=rfl
    rw [e2] at hl2
    have hn : decide (l - szG1 p < 0) = false:=by simp only [decide_eq_false_iff_not]; omega
    rw [left_yes hf]
    simp only [zW,zX,zD,builtinA,isLeaf,const1,ustrA,simprocAttr,ti3,ti22,ti28,ti30,ti86,ca56,ca77,cf,Tryz.results15,hn,encXA_take,encXA_length]
    refine callK_intro (by simp only [zW,zX,zD,builtinA,isLeaf,const1,ustrA,simprocAttr,frzL_encXA,Option.map_some]; rfl) (laws_szExpr p.main hm _ _ (by omega) (by omega)) ?_ rfl; rintro v A' ⟨rfl,rfl⟩
    rw [hl2]
    by_cases hg : ((szG p : Nat) : Int) ≤ l
    · have hn2 : decide (l - szG p < 0) = false:=by simp only [decide_eq_false_iff_not]; omega
      rw [left_yes hg]
      simp only [zW,zX,zD,builtinA,isLeaf,const1,ustrA,simprocAttr,ti3,ti22,ti28,ti30,ti86,ca56,ca77,cf,Tryz.results15,hn2]
    · rw [left_no hg]
      simp only [zW,zX,zD,builtinA,isLeaf,const1,ustrA,simprocAttr,ti3,ti22,ti28,ti30,ti86,ca56,ca77,cf,Tryz.results15]
  · rw [left_no hf,left_no (a:=szG p) (by unfold szG; omega)]
    simp only [zW,zX,zD,builtinA,isLeaf,const1,ustrA,simprocAttr,ti3,ti22,ti28,ti30,ti86,ca56,ca77,cf,Tryz.results15]
set_option maxRecDepth 100000 in
theorem laws_toProgram (p : PrI) (hp : szG p ≤ 1048576) (A : List Box) : ACalls Tryz.prog 17 [.agg (gEA p)] A (fun v A'=>v = .agg (gE p) ∧ A' = A):=by
  have h1 : p.decls.length ≤ 1048576 ∧ szDs p.decls ≤ 1048576 ∧ szX p.main ≤ 1048576:=by unfold szG szG1 at hp; omega
  rw [gEA,gE]
  refine acalls_enter (cf:=cf 13 [0,1,2,3]) foll Tryz.func17 Tryz.ntmps17 (by simp [cf]) ?_
  simp only [Tryz.f17,EnterK_some,zW,zX,zD,builtinA,isLeaf,const1,ustrA,simprocAttr,ti22,ti28,ti30,ti33,ti39,ti41,ti86,ti90,ca58,ca81,cf,Tryz.results17]
  refine ⟨by omega,?_⟩
  refine callK_intro (by simp only [zW,zX,zD,builtinA,isLeaf,const1,ustrA,simprocAttr,Option.map_some]; rfl) (laws_toDeclS p.decls h1.1 h1.2.1 _) ?_ rfl; rintro v A' ⟨rfl,rfl⟩
  simp only [zW,zX,zD,builtinA,isLeaf,const1,ustrA,simprocAttr,ti22,ti28,ti30,ti33,ti39,ti41,ti86,ti90,ca58,ca81,cf,Tryz.results17,encXA_take,encXA_length]
  refine callK_intro (by simp only [zW,zX,zD,builtinA,isLeaf,const1,ustrA,simprocAttr,frzL_encXA,Option.map_some]; rfl) (laws_toExpr p.main h1.2.2 _) ?_ rfl; rintro v A' ⟨rfl,rfl⟩
  have hcl : (encX p.main).all (closed1 A.length) = true:=List.all_eq_true.2 fun v hv=>leaf_closed1 (encX_leaf _ v hv)
  simp only [zW,zX,zD,builtinA,isLeaf,const1,ustrA,simprocAttr,ti22,ti28,ti30,ti33,ti39,ti41,ti86,ti90,ca58,ca81,cf,Tryz.results17,encX_take,encX_length,frzL_encX,hcl]
  try trace_state
set_option maxRecDepth 100000 in
theorem laws_eqProgram (p : PrI) (hp : p.Ok) (A : List Box) : ACalls Tryz.prog 19 [.agg (gE p),.agg (gE p)] A (fun v A'=>v = .bool true ∧ A' = A):=by
  obtain ⟨hd,hm⟩:=hp
  rw [gE]
  refine acalls_enter (cf:=cf 17 [0,1,2,3,4,10,16]) foll Tryz.func19 Tryz.ntmps19 (by simp [cf]) ?_
  simp only [Tryz.f19,EnterK_some,zW,zX,zD,builtinA,isLeaf,const1,ustrA,simprocAttr,ti33,ti39,ti41,ti90,ca61,ca83,cf,Tryz.results19]
  refine ⟨by omega,by omega,?_⟩
  refine callK_intro (by simp only [zW,zX,zD,builtinA,isLeaf,const1,ustrA,simprocAttr,Option.map_some]; rfl) (laws_eqDeclS p.decls hd.1 hd.2 _) ?_ rfl; rintro v A' ⟨rfl,rfl⟩
  simp only [zW,zX,zD,builtinA,isLeaf,const1,ustrA,simprocAttr,ti33,ti39,ti41,ti90,ca61,ca83,cf,Tryz.results19,encX_take,encX_length]
  refine callK_intro (by simp only [zW,zX,zD,builtinA,isLeaf,const1,ustrA,simprocAttr,frzL_encX,Option.map_some]; rfl) (laws_eqExpr p.main hm _) ?_ rfl; rintro v A' ⟨rfl,rfl⟩
  simp only [zW,zX,zD,builtinA,isLeaf,const1,ustrA,simprocAttr,ti33,ti39,ti41,ti90,ca61,ca83,cf,Tryz.results19]
theorem cD : Tryz.prog.cellsOf 86 = 7:=by kernel_rfl
theorem cDS : Tryz.prog.cellsOf 22 = 1:=by kernel_rfl
theorem cG : Tryz.prog.cellsOf 30 = 10:=by kernel_rfl
theorem seven_of {α : Type} {l : List α} (h : l.length = 7) : ∃ a b c d e f g,l = [a,b,c,d,e,f,g]:=by
  match l,h with
  | [a,b,c,d,e,f,g],_=>exact ⟨a,b,c,d,e,f,g,rfl⟩
theorem ten_of {α : Type} {l : List α} (h : l.length = 10) : ∃ a r,l = a :: r ∧ r.length = 9:=by
  match l,h with
  | a :: r,h=>exact ⟨a,r,rfl,by simpa using h⟩
theorem de_of {cz : List AV} (h : Cells Tryz.prog 86 cz) : ∃ x : DeI,cz = dEA x ∧ x.Ok:=by
  generalize ht : 86 = t at h
  cases h with
  | int h1 h2=>subst ht; rw [Tryz.underlying86] at h1; injection h1 with h1; cases h1
  | bool h1=>subst ht; rw [Tryz.underlying86] at h1; injection h1 with h1; cases h1
  | str h1=>subst ht; rw [Tryz.underlying86] at h1; injection h1 with h1; cases h1
  | slice h1 h2 h3=>subst ht; rw [Tryz.underlying86] at h1; injection h1 with h1; cases h1
  | @struct t fs cs h1 h2 h3 =>
    subst ht
    rw [Tryz.underlying86] at h1
    injection h1 with h1
    injection h1 with h1
    subst h1
    rw [cD] at h2
    obtain ⟨a,b,c,d,e,f,g,rfl⟩:=seven_of h2
    simp only [List.mem_cons,List.not_mem_nil,or_false,forall_eq_or_imp,forall_eq,c3,c9,cS,cT,cIS,cPS,cJS,cU,cX,cNS,cDS,List.drop_zero,List.drop_succ_cons,List.take_succ_cons,List.take_zero] at h3
    obtain ⟨u,e1,l1⟩:=un_of h3.1
    obtain ⟨m,e2,l2⟩:=cells_str Tryz.underlying9 h3.2.1
    obtain ⟨n,e3,l3⟩:=cells_str Tryz.underlying9 h3.2.2.1
    obtain ⟨ns,e4,l4⟩:=ns_of h3.2.2.2
    rw [uEA] at e1
    injection e1 with e1 e5; injection e5 with e5 e6; injection e6 with e6 e7; injection e7 with e7
    injection e2 with e2; injection e3 with e3; injection e4 with e4
    subst e1; subst e5; subst e6; subst e7; subst e2; subst e3; subst e4
    have hm : maxLen = 2 ^ 63 - 1:=rfl
    exact ⟨⟨u,m,n,ns⟩,rfl,l1,by show m.length < 2 ^ 63; omega,by show n.length < 2 ^ 63; omega,l4⟩
theorem des_of {cz : List AV} (h : Cells Tryz.prog 22 cz) : ∃ l,cz = [.aslice (dEAs l)] ∧ DesOk l:=by
  generalize ht : 22 = t at h
  cases h with
  | int h1 h2=>subst ht; rw [Tryz.underlying22] at h1; injection h1 with h1; cases h1
  | bool h1=>subst ht; rw [Tryz.underlying22] at h1; injection h1 with h1; cases h1
  | str h1=>subst ht; rw [Tryz.underlying22] at h1; injection h1 with h1; cases h1
  | slice h1 h2 h3 =>
    subst ht
    rw [Tryz.underlying22] at h1
    injection h1 with h1
    injection h1 with h1
    subst h1
    obtain ⟨ks,k1,k2,k3⟩:=list_enc (f:=dEA) (Q:=DeI.Ok) fun r hr=>de_of (h3 r hr)
    have hm : maxLen = 2 ^ 63 - 1:=rfl
    refine ⟨ks,by rw [dEAs,k1],?_,k3⟩
    rw [k2]; omega
  | @struct t fs cs h1 h2 h3=>subst ht; rw [Tryz.underlying22] at h1; injection h1 with h1; cases h1
theorem pr_of {cz : List AV} (h : Cells Tryz.prog 30 cz) : ∃ x : PrI,cz = gEA x ∧ x.Ok:=by
  generalize ht : 30 = t at h
  cases h with
  | int h1 h2=>subst ht; rw [Tryz.underlying30] at h1; injection h1 with h1; cases h1
  | bool h1=>subst ht; rw [Tryz.underlying30] at h1; injection h1 with h1; cases h1
  | str h1=>subst ht; rw [Tryz.underlying30] at h1; injection h1 with h1; cases h1
  | slice h1 h2 h3=>subst ht; rw [Tryz.underlying30] at h1; injection h1 with h1; cases h1
  | @struct t fs cs h1 h2 h3 =>
    subst ht
    rw [Tryz.underlying30] at h1
    injection h1 with h1
    injection h1 with h1
    subst h1
    rw [cG] at h2
    obtain ⟨a,l,rfl,hl⟩:=ten_of h2
    simp only [List.mem_cons,List.not_mem_nil,or_false,forall_eq_or_imp,forall_eq,cX,cDS,List.drop_zero,List.drop_succ_cons,List.take_succ_cons,List.take_zero] at h3
    obtain ⟨ds,e1,l1⟩:=des_of h3.1
    rw [List.take_of_length_le (by omega)] at h3
    obtain ⟨x,e2,l2⟩:=(ex_of h3.2).1 (Eq.refl _)
    injection e1 with e1
    subst e1; subst e2
    exact ⟨⟨ds,x⟩,rfl,l1,l2⟩
theorem plainG : plainB Tryz.prog [30,22,86,48,74,71,297,72,300,28,26,46,134,25,23,3,9] = true:=by kernel_rfl
section
variable {H : Type} {enc' : TypeId × Value → H} {W : World}
set_option maxRecDepth 100000 in
theorem rv_prog {v : Value} {d : DataW H} {p : List MemPlace} {r : Reach} {b0 : Nat} (hval : Value.okWide Tryz.prog W r b0 30 v) (h : DataW.Trod enc' Tryz.prog W 0 (fun _=>true) true 30 v d p) :
    ∃ x : PrI,x.Ok ∧ RV (Abs.start W) W (.agg (gEA x)) v:=by
  obtain ⟨xs,rfl,hs⟩:=okWide_struct Tryz.underlying30 hval
  obtain ⟨fuel,hf⟩:=h
  have hmem : 30 ∈ [30,22,86,48,74,71,297,72,300,28,26,46,134,25,23,3,9]:=.head _
  have hp:=plain_opened plainG fuel hmem hf
  obtain ⟨cz,ho⟩:=hp
  have hq:=pr_of ho.typed
  obtain ⟨x,he,hk⟩:=hq
  subst he
  exact ⟨x,hk,opened_agg ho⟩
end
end Go.Proofs.YtnjdbgiincliaaaGreat
/- Valid expressions as data. -/
set_option linter.unusedVariables false
set_option linter.unusedSimpArgs false
namespace Go.Proofs.YtnjdbgiincliaaaGreat
open Go.Abs
inductive VE where
  | var (i : Int)
  | num (i : Int)
  | nm (m n : List UInt8)
  | fn (t : VT) (b : VE)
  | app (f a : VE)
  | add (a b : VE)
  | ite (c a b : VE)
def toX : VE → Ex
  | .var i=>.mk 1 i [] [] ty0 []
  | .num i=>.mk 2 i [] [] ty0 []
  | .nm m n=>.mk 3 0 m n ty0 []
  | .fn t b=>.mk 4 0 [] [] (toTy t) [toX b]
  | .app f a=>.mk 5 0 [] [] ty0 [toX f,toX a]
  | .add a b=>.mk 6 0 [] [] ty0 [toX a,toX b]
  | .ite c a b=>.mk 7 0 [] [] ty0 [toX c,toX a,toX b]
def depE : VE → Nat
  | .var _=>1
  | .num _=>1
  | .nm _ _=>1
  | .fn _ b=>1 + depE b
  | .app f a=>1 + max (depE f) (depE a)
  | .add a b=>1 + max (depE a) (depE b)
  | .ite c a b=>1 + max (depE c) (max (depE a) (depE b))
def cntE : VE → Nat
  | .var _=>1
  | .num _=>1
  | .nm _ _=>1
  | .fn _ b=>1 + cntE b
  | .app f a=>1 + cntE f + cntE a
  | .add a b=>1 + cntE a + cntE b
  | .ite c a b=>1 + cntE c + cntE a + cntE b
def okE : VE → Prop
  | .var i=>0 ≤ i ∧ i ≤ 12
  | .num i=>0 ≤ i ∧ i ≤ 99
  | .nm m n=>nmB m n = true
  | .fn t b=>VOk t ∧ okE b
  | .app f a=>okE f ∧ okE a
  | .add a b=>okE a ∧ okE b
  | .ite c a b=>okE c ∧ okE a ∧ okE b
mutual
def countX : Ex → Nat
  | .mk _ _ _ _ _ ks=>1 + countXs ks
def countXs : List Ex → Nat
  | []=>0
  | x :: l=>countX x + countXs l
end
mutual
theorem countX_sz : ∀ t,countX t ≤ 1 + szX t
  | .mk k i m n t ks=>by rw [countX,szX]; have:=countXs_sz ks; omega
theorem countXs_sz : ∀ l,countXs l ≤ l.length + szXs l
  | []=>by simp [countXs]
  | t :: l=>by rw [countXs,szXs,List.length_cons]; have:=countX_sz t; have:=countXs_sz l; omega
end
theorem countX_toX : ∀ v,countX (toX v) = cntE v
  | .var _=>by simp [toX,countX,countXs,cntE]
  | .num _=>by simp [toX,countX,countXs,cntE]
  | .nm _ _=>by simp [toX,countX,countXs,cntE]
  | .fn t b=>by simp [toX,countX,countXs,cntE,countX_toX b]
  | .app a b=>by simp [toX,countX,countXs,cntE,countX_toX a,countX_toX b]; omega
  | .add a b=>by simp [toX,countX,countXs,cntE,countX_toX a,countX_toX b]; omega
  | .ite c a b=>by simp [toX,countX,countXs,cntE,countX_toX a,countX_toX b,countX_toX c]; omega
def kidsX (k : Int) : Int:=if k = 1 then 0 else if k = 2 then 0 else if k = 3 then 0 else if k = 4 then 1 else if k = 5 then 2 else if k = 6 then 2 else if k = 7 then 3 else -1
noncomputable def ownX (k i : Int) (m n : List UInt8) (t : Ty) : Bool :=
  if k = 3 then decide (i = 0) && decide (t = ty0) && localB n && (decide (m = []) || moduleB m)
  else decide (m = []) && decide (n = []) && (if k = 1 then decide (0 ≤ i) && decide (i ≤ 12) && decide (t = ty0) else if k = 2 then decide (0 ≤ i) && decide (i ≤ 99) && decide (t = ty0)
    else if k = 4 then decide (i = 0) && validB t else decide (i = 0) && decide (t = ty0))
mutual
noncomputable def shapeX : Ex → Int → Bool
  | .mk k i m n t ks,d=>decide (1 ≤ d) && (decide (kidsX k = ks.length) && ownX k i m n t) && shapeXs ks (d - 1)
noncomputable def shapeXs : List Ex → Int → Bool
  | [],_=>true
  | x :: l,d=>shapeX x d && shapeXs l d
end
theorem shapeXs_take {l : List Ex} {i : Nat} (h : i < l.length) (d : Int) : shapeXs (l.take (i + 1)) d = (shapeXs (l.take i) d && shapeX (l.getD i ex0) d):=by
  induction l generalizing i with
  | nil=>simp at h
  | cons t l ih =>
    cases i with
    | zero=>simp [shapeXs,List.getD]
    | succ i =>
      have:=ih (i:=i) (by simpa using h)
      simp only [List.take_succ_cons,shapeXs,List.getD_cons_succ] at this ⊢
      rw [this,Bool.and_assoc]
theorem shapeXs_false {l : List Ex} {i : Nat} {d : Int} (h : i < l.length) (hs : shapeX (l.getD i ex0) d = false) : shapeXs l d = false:=by
  induction l generalizing i with
  | nil=>simp at h
  | cons t l ih =>
    rw [shapeXs]
    cases i with
    | zero=>have : shapeX t d = false:=hs; rw [this]; rfl
    | succ i=>rw [ih (i:=i) (by simpa using h) (by simpa using hs)]; simp
theorem depE_pos : ∀ v,1 ≤ depE v
  | .var _ | .num _ | .nm _ _=>by simp [depE]
  | .fn _ _ | .app _ _ | .add _ _ | .ite _ _ _=>by simp [depE]
theorem cntE_pos : ∀ v,1 ≤ cntE v
  | .var _ | .num _ | .nm _ _=>by simp [cntE]
  | .fn _ _ | .app _ _ | .add _ _ | .ite _ _ _=>by simp [cntE]; try omega
theorem shapeX_toX : ∀ (v : VE) (d : Int),okE v → (depE v : Int) ≤ d → shapeX (toX v) d = true
  | .var i,d,hv,h=>by
    simp only [depE] at h; obtain ⟨h1,h2⟩:=hv
    simp [toX,shapeX,shapeXs,kidsX,ownX,h1,h2]; omega
  | .num i,d,hv,h=>by
    simp only [depE] at h; obtain ⟨h1,h2⟩:=hv
    simp [toX,shapeX,shapeXs,kidsX,ownX,h1,h2]; omega
  | .nm m n,d,hv,h=>by
    simp only [depE] at h
    simp [okE,nmB] at hv
    simp [toX,shapeX,shapeXs,kidsX,ownX,hv.1,hv.2]; omega
  | .fn t b,d,hv,h=>by
    simp only [depE] at h; obtain ⟨h1,h2⟩:=hv
    have hb:=shapeX_toX b (d - 1) h2 (by omega)
    simp [toX,shapeX,shapeXs,kidsX,ownX,hb,validB_toTy h1]; omega
  | .app a b,d,hv,h=>by
    simp only [depE] at h; obtain ⟨h1,h2⟩:=hv
    have ha:=shapeX_toX a (d - 1) h1 (by omega)
    have hb:=shapeX_toX b (d - 1) h2 (by omega)
    simp [toX,shapeX,shapeXs,kidsX,ownX,ha,hb]; omega
  | .add a b,d,hv,h=>by
    simp only [depE] at h; obtain ⟨h1,h2⟩:=hv
    have ha:=shapeX_toX a (d - 1) h1 (by omega)
    have hb:=shapeX_toX b (d - 1) h2 (by omega)
    simp [toX,shapeX,shapeXs,kidsX,ownX,ha,hb]; omega
  | .ite c a b,d,hv,h=>by
    simp only [depE] at h; obtain ⟨h0,h1,h2⟩:=hv
    have hc:=shapeX_toX c (d - 1) h0 (by omega)
    have ha:=shapeX_toX a (d - 1) h1 (by omega)
    have hb:=shapeX_toX b (d - 1) h2 (by omega)
    simp [toX,shapeX,shapeXs,kidsX,ownX,ha,hb,hc]; omega
theorem len0 {l : List Ex} (h : (0 : Int) = l.length) : l = []:=List.length_eq_zero_iff.1 (by omega)
theorem len1 {l : List Ex} (h : (1 : Int) = l.length) : ∃ a,l = [a]:=by
  match l,h with
  | [a],_=>exact ⟨a,rfl⟩
  | [],h=>simp at h
  | _ :: _ :: _,h=>simp at h; omega
theorem len2 {l : List Ex} (h : (2 : Int) = l.length) : ∃ a b,l = [a,b]:=by
  match l,h with
  | [a,b],_=>exact ⟨a,b,rfl⟩
  | [],h=>simp at h
  | [_],h=>simp at h
  | _ :: _ :: _ :: _,h=>simp at h; omega
theorem len3 {l : List Ex} (h : (3 : Int) = l.length) : ∃ a b c,l = [a,b,c]:=by
  match l,h with
  | [a,b,c],_=>exact ⟨a,b,c,rfl⟩
  | [],h=>simp at h
  | [_],h=>simp at h
  | [_,_],h=>simp at h
  | _ :: _ :: _ :: _ :: _,h=>simp at h; omega
theorem shapeX_of (x : Ex) : ∀ (d : Int),shapeX x d = true → ∃ v,x = toX v ∧ okE v ∧ (depE v : Int) ≤ d:=by
  induction x using Ex.ind with
  | h k i m n t ks ih =>
    intro d h
    rw [shapeX] at h
    simp only [Bool.and_eq_true,decide_eq_true_eq] at h
    obtain ⟨⟨h1,h2,h3⟩,h4⟩:=h
    by_cases k1 : k = 1
    · subst k1
      simp only [kidsX,if_true] at h2
      obtain rfl:=len0 h2
      simp [ownX] at h3
      obtain ⟨⟨rfl,rfl⟩,⟨h5,h6⟩,rfl⟩:=h3
      exact ⟨.var i,rfl,⟨h5,h6⟩,h1⟩
    by_cases k2 : k = 2
    · subst k2
      simp [kidsX] at h2
      obtain rfl:=len0 h2
      simp [ownX] at h3
      obtain ⟨⟨rfl,rfl⟩,⟨h5,h6⟩,rfl⟩:=h3
      exact ⟨.num i,rfl,⟨h5,h6⟩,h1⟩
    by_cases k3 : k = 3
    · subst k3
      simp [kidsX] at h2
      obtain rfl:=len0 h2
      simp [ownX] at h3
      obtain ⟨⟨⟨rfl,rfl⟩,h5⟩,h6⟩:=h3
      exact ⟨.nm m n,rfl,by simp [okE,nmB,h5,h6],h1⟩
    by_cases k4 : k = 4
    · subst k4
      simp [kidsX] at h2
      obtain ⟨b,rfl⟩:=len1 h2
      simp [ownX] at h3
      obtain ⟨⟨rfl,rfl⟩,rfl,h5⟩:=h3
      rcases valid_cases t with ⟨u,rfl,hu⟩ | hn
      · simp only [shapeXs,Bool.and_true] at h4
        obtain ⟨v,rfl,v1,v2⟩:=ih b (by simp) _ h4
        exact ⟨.fn u v,rfl,⟨hu,v1⟩,by simp only [depE]; omega⟩
      · rw [hn] at h5; cases h5
    by_cases k5 : k = 5
    · subst k5
      simp [kidsX] at h2
      obtain ⟨a,b,rfl⟩:=len2 h2
      simp [ownX] at h3
      obtain ⟨⟨rfl,rfl⟩,rfl,rfl⟩:=h3
      simp only [shapeXs,Bool.and_true,Bool.and_eq_true] at h4
      obtain ⟨u,rfl,u1,u2⟩:=ih a (by simp) _ h4.1
      obtain ⟨v,rfl,v1,v2⟩:=ih b (by simp) _ h4.2
      exact ⟨.app u v,rfl,⟨u1,v1⟩,by simp only [depE]; omega⟩
    by_cases k6 : k = 6
    · subst k6
      simp [kidsX] at h2
      obtain ⟨a,b,rfl⟩:=len2 h2
      simp [ownX] at h3
      obtain ⟨⟨rfl,rfl⟩,rfl,rfl⟩:=h3
      simp only [shapeXs,Bool.and_true,Bool.and_eq_true] at h4
      obtain ⟨u,rfl,u1,u2⟩:=ih a (by simp) _ h4.1
      obtain ⟨v,rfl,v1,v2⟩:=ih b (by simp) _ h4.2
      exact ⟨.add u v,rfl,⟨u1,v1⟩,by simp only [depE]; omega⟩
    by_cases k7 : k = 7
    · subst k7
      simp [kidsX] at h2
      obtain ⟨c,a,b,rfl⟩:=len3 h2
      simp [ownX] at h3
      obtain ⟨⟨rfl,rfl⟩,rfl,rfl⟩:=h3
      simp only [shapeXs,Bool.and_true,Bool.and_eq_true] at h4
      obtain ⟨w,rfl,w1,w2⟩:=ih c (by simp) _ h4.1
      obtain ⟨u,rfl,u1,u2⟩:=ih a (by simp) _ h4.2.1
      obtain ⟨v,rfl,v1,v2⟩:=ih b (by simp) _ h4.2.2
      exact ⟨.ite w u v,rfl,⟨w1,u1,v1⟩,by simp only [depE]; omega⟩
    · exfalso
      simp [kidsX,k1,k2,k3,k4,k5,k6,k7] at h2
      try omega
mutual
def cntU : Ex → Int → Int
  | .mk _ _ _ _ _ ks,most=>cntUs ks most 1
def cntUs : List Ex → Int → Int → Int
  | [],_,n=>n
  | x :: l,most,n=>if n ≤ most then cntUs l most (n + cntU x (most - n)) else n
end
mutual
theorem cntU_is : ∀ (x : Ex) (most : Int),0 ≤ most → 1 ≤ cntU x most ∧ cntU x most ≤ countX x ∧ ((countX x : Int) ≤ most → cntU x most = countX x) ∧ (most < countX x → most < cntU x most)
  | .mk _ _ _ _ _ ks,most,h=>by
    have:=cntUs_is ks most 1 (by omega) (by omega)
    simp only [countX,cntU]
    refine ⟨by omega,by omega,fun hh=>?_,fun hh=>?_⟩
    · rw [this.2.2.1 (by omega)]; omega
    · exact this.2.2.2 (by omega)
theorem cntUs_is : ∀ (l : List Ex) (most n : Int),0 ≤ most → 0 ≤ n → n ≤ cntUs l most n ∧ cntUs l most n ≤ n + countXs l ∧ (n + countXs l ≤ most → cntUs l most n = n + countXs l) ∧ (most < n + countXs l → most < cntUs l most n)
  | [],most,n,h,hn=>by simp [cntUs,countXs]
  | x :: l,most,n,h,hn=>by
    rw [cntUs,countXs]
    by_cases hh : n ≤ most
    · rw [if_pos hh]
      obtain ⟨a1,a2,a3,a4⟩:=cntU_is x (most - n) (by omega)
      obtain ⟨b1,b2,b3,b4⟩:=cntUs_is l most (n + cntU x (most - n)) h (by omega)
      refine ⟨by omega,by omega,fun q=>?_,fun q=>?_⟩
      · have:=a3 (by omega)
        rw [b3 (by omega),this]; omega
      · by_cases hq : (countX x : Int) ≤ most - n
        · have:=a3 hq
          exact b4 (by omega)
        · have:=a4 (by omega)
          omega
    · rw [if_neg hh]
      omega
end
noncomputable def validX (x : Ex) : Bool:=shapeX x 40 && decide (countX x ≤ 400)
structure EOk (v : VE) : Prop where
  ok : okE v
  dep : depE v ≤ 40
  cnt : cntE v ≤ 400
theorem validX_toX {v : VE} (h : EOk v) : validX (toX v) = true:=by
  rw [validX,shapeX_toX v 40 h.ok (by have:=h.dep; omega),countX_toX,decide_eq_true h.cnt]; rfl
theorem validX_cases (x : Ex) : (∃ v,x = toX v ∧ EOk v) ∨ validX x = false:=by
  cases h : validX x with
  | false=>exact .inr rfl
  | true =>
    left
    rw [validX,Bool.and_eq_true,decide_eq_true_eq] at h
    obtain ⟨v,rfl,h1,h2⟩:=shapeX_of x 40 h.1
    rw [countX_toX] at h
    exact ⟨v,rfl,h1,by omega,h.2⟩
theorem toTy_inj' : ∀ {v v' : VT},toTy v = toTy v' → v = v'
  | .num,.num,_=>rfl
  | .num,.nm _ _,h=>by simp [toTy] at h
  | .num,.fn _ _,h=>by simp [toTy] at h
  | .nm _ _,.num,h=>by simp [toTy] at h
  | .nm _ _,.fn _ _,h=>by simp [toTy] at h
  | .fn _ _,.num,h=>by simp [toTy] at h
  | .fn _ _,.nm _ _,h=>by simp [toTy] at h
  | .nm m n,.nm m' n',h=>by simp [toTy] at h; rw [h.1,h.2]
  | .fn a b,.fn a' b',h=>by
    simp [toTy] at h
    rw [toTy_inj' h.1,toTy_inj' h.2]
theorem toX_inj : ∀ {v v' : VE},toX v = toX v' → v = v'
  | .var _,v',h=>by cases v' <;> simp [toX] at h; rw [h]
  | .num _,v',h=>by cases v' <;> simp [toX] at h; rw [h]
  | .nm _ _,v',h=>by cases v' <;> simp [toX] at h; rw [h.1,h.2]
  | .fn t b,v',h=>by
    cases v' <;> simp [toX] at h
    rw [toTy_inj' h.1,toX_inj h.2]
  | .app a b,v',h=>by
    cases v' <;> simp [toX] at h
    rw [toX_inj h.1,toX_inj h.2]
  | .add a b,v',h=>by
    cases v' <;> simp [toX] at h
    rw [toX_inj h.1,toX_inj h.2]
  | .ite c a b,v',h=>by
    cases v' <;> simp [toX] at h
    rw [toX_inj h.1,toX_inj h.2.1,toX_inj h.2.2]
end Go.Proofs.YtnjdbgiincliaaaGreat
