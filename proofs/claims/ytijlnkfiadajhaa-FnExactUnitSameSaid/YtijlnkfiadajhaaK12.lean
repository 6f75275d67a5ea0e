/- Decls, ClsA, DeclJ. -/
import Derived.Test.YtijlnkfiadajhaaK11
import Derived.Test.YtijlnkfiadajhaaAbsW3
/- Declarations and programs as data, what the laws' helpers do with them, and a law's argument that is a program. -/
set_option linter.unusedVariables false
set_option linter.unusedSimpArgs false
namespace Go.Proofs.Ytijlnkfiadajhaa
open Go.Abs Go.RowKit Go.ChangeShapes Go.WideShapes Go.ChangeAt Go.ChangeMaps
structure DeI where
  un : UnI
  made : List UInt8
  functor : List UInt8
  args : Nms
def de0 : DeI:=⟨⟨[],[],[],[]⟩,[],[],[]⟩
def dE (x : DeI) : List AV:=[.str x.un.name,.slice (pEs x.un.params),.slice (iEs x.un.body),.slice (sEs x.un.face),.str x.made,.str x.functor,.slice (aEs x.args)]
def dEA (x : DeI) : List AV:=[.str x.un.name,.aslice (pEAs x.un.params),.aslice (iEAs x.un.body),.aslice (sEAs x.un.face),.str x.made,.str x.functor,.aslice (aEs x.args)]
def dEs (l : List DeI) : List (List AV):=l.map dE
def dEAs (l : List DeI) : List (List AV):=l.map dEA
def szD1 (x : DeI) : Nat:=szU x.un + x.made.length
def szD2 (x : DeI) : Nat:=szD1 x + x.functor.length
def szD (x : DeI) : Nat:=szD2 x + (x.args.length + szNs x.args)
def szDs (l : List DeI) : Nat:=(l.map szD).sum
def DeI.Ok (x : DeI) : Prop:=x.un.Ok ∧ x.made.length < 2 ^ 63 ∧ x.functor.length < 2 ^ 63 ∧ NsOk x.args
def zde : List AV:=[.str [],.slice [],.slice [],.slice [],.str [],.str [],.slice []]
theorem dE_length (x : DeI) : (dE x).length = 7:=rfl
theorem dEA_length (x : DeI) : (dEA x).length = 7:=rfl
theorem dE_take (x : DeI) : List.take 7 (dE x) = dE x:=rfl
theorem dEA_take (x : DeI) : List.take 7 (dEA x) = dEA x:=rfl
theorem dE_leaf (x : DeI) : ∀ v ∈ dE x,isLeaf v = true:=by simp [dE,isLeaf]
theorem frzL_dE (x : DeI) (A : List Box) : frzL (dE x) A = some (dE x,A):=rfl
theorem frzL_dEA (x : DeI) (A : List Box) : frzL (dEA x) A = some (dEA x,A):=rfl
theorem dEs_length (l : List DeI) : (dEs l).length = l.length:=by simp [dEs]
theorem dEAs_length (l : List DeI) : (dEAs l).length = l.length:=by simp [dEAs]
theorem dEs_getD {l : List DeI} {i : Nat} (h : i < l.length) : (dEs l).getD i [] = dE (l.getD i de0):=by simp [dEs,List.getD,h]
theorem dEAs_getD {l : List DeI} {i : Nat} (h : i < l.length) : (dEAs l).getD i [] = dEA (l.getD i de0):=by simp [dEAs,List.getD,h]
theorem de_mem {l : List DeI} {i : Nat} (h : i < l.length) : l.getD i de0 ∈ l:=by simp [List.getD,h]
theorem de_take {l : List DeI} {i : Nat} (h : i < l.length) : l.take (i + 1) = l.take i ++ [l.getD i de0]:=by
  rw [List.take_add_one]; simp [List.getD,h]
theorem szDs_take {l : List DeI} {i : Nat} (h : i < l.length) : szDs (l.take (i + 1)) = szDs (l.take i) + szD (l.getD i de0):=by
  rw [de_take h]; simp [szDs]
theorem szDs_le (l : List DeI) (i : Nat) : szDs (l.take i) ≤ szDs l:=by
  have h : szDs l = szDs (l.take i) + szDs (l.drop i):=by
    conv=>lhs; rw [← List.take_append_drop i l]
    simp only [szDs,List.map_append,List.sum_append]
  omega
theorem szDs_mem {x : DeI} {l : List DeI} (h : x ∈ l) : szD x ≤ szDs l:=by
  induction l with
  | nil=>simp at h
  | cons y l ih =>
    simp only [szDs,List.map_cons,List.sum_cons] at ih ⊢
    rcases List.mem_cons.1 h with rfl | h
    · omega
    · have:=ih h; omega
set_option maxRecDepth 100000 in
theorem laws_szDecl (x : DeI) (hx : x.Ok) (l : Int) (A : List Box) (h0 : 0 ≤ l) (h1 : l ≤ 1048576) :
    ACalls Try.prog 65 [.agg (dEA x),.int .i64 l] A (fun v A'=>v = .int .i64 (left l (szD x)) ∧ A' = A):=by
  obtain ⟨hx1,hx2,hx3,hx4⟩:=hx
  have hsu:=fun A=>laws_szUnit x.un hx1 l A h0 h1
  rw [uEA] at hsu
  rw [dEA]
  refine acalls_enter (cf:=cf 32 [0,1,2,4,10,17,24,30]) foll Try.func65 Try.ntmps65 (by simp [cf]) ?_
  simp only [Try.f65,EnterK_some,zW,zX,zD,builtinA,isLeaf,const1,ustrA,simprocAttr,ti3,ti9,ti26,ti100,ti144,ca6,ca93,cf,Try.results65]
  refine callK_intro (by simp only [zW,zX,zD,builtinA,isLeaf,const1,ustrA,simprocAttr,Option.map_some]; rfl) (hsu _) ?_ rfl; rintro v A' ⟨rfl,rfl⟩
  by_cases hf : ((szU x.un : Nat) : Int) ≤ l
  · have hn : decide (l - szU x.un < 0) = false:=by simp only [decide_eq_false_iff_not]; omega
    have hw1 : IntKind.i64.wrap (l - (szU x.un : Nat) - ↑x.made.length) = l - (szD1 x : Nat):=by rw [wrap64 (by omega) (by omega)]; unfold szD1; omega
    rw [left_yes hf]
    simp only [zW,zX,zD,builtinA,isLeaf,const1,ustrA,simprocAttr,ti3,ti9,ti26,ti100,ti144,ca6,ca93,cf,Try.results65,hn,hw1]
    by_cases hg : ((szD1 x : Nat) : Int) ≤ l
    · have hn1 : decide (l - szD1 x < 0) = false:=by simp only [decide_eq_false_iff_not]; omega
      have hw2 : IntKind.i64.wrap (l - (szD1 x : Nat) - ↑x.functor.length) = l - (szD2 x : Nat):=by rw [wrap64 (by omega) (by omega)]; unfold szD2; omega
      simp only [zW,zX,zD,builtinA,isLeaf,const1,ustrA,simprocAttr,ti3,ti9,ti26,ti100,ti144,ca6,ca93,cf,Try.results65,hn1,hw2]
      by_cases hh : ((szD2 x : Nat) : Int) ≤ l
      · have hn2 : decide (l - szD2 x < 0) = false:=by simp only [decide_eq_false_iff_not]; omega
        have hl3:=left_add (l:=l) (a:=szD2 x) (b:=x.args.length + szNs x.args) hh
        have e3 : szD2 x + (x.args.length + szNs x.args) = szD x:=rfl
        rw [e3] at hl3
        simp only [zW,zX,zD,builtinA,isLeaf,const1,ustrA,simprocAttr,ti3,ti9,ti26,ti100,ti144,ca6,ca93,cf,Try.results65,hn2]
        refine callK_intro (by simp only [zW,zX,zD,builtinA,isLeaf,const1,ustrA,simprocAttr,Option.map_some]; rfl) (laws_szStringS x.args hx4.1 hx4.2 _ _ (by omega) (by omega)) ?_ rfl; rintro v A' ⟨rfl,rfl⟩
        rw [hl3]
        by_cases hk : ((szD x : Nat) : Int) ≤ l
        · have hn3 : decide (l - szD x < 0) = false:=by simp only [decide_eq_false_iff_not]; omega
          rw [left_yes hk]
          simp only [zW,zX,zD,builtinA,isLeaf,const1,ustrA,simprocAttr,ti3,ti9,ti26,ti100,ti144,ca6,ca93,cf,Try.results65,hn3]
        · rw [left_no hk]
          simp only [zW,zX,zD,builtinA,isLeaf,const1,ustrA,simprocAttr,ti3,ti9,ti26,ti100,ti144,ca6,ca93,cf,Try.results65]
      · have hn2 : decide (l - szD2 x < 0) = true:=by simp only [decide_eq_true_eq]; omega
        rw [left_no (a:=szD x) (by unfold szD; omega)]
        simp only [zW,zX,zD,builtinA,isLeaf,const1,ustrA,simprocAttr,ti3,ti9,ti26,ti100,ti144,ca6,ca93,cf,Try.results65,hn2]
    · have hn1 : decide (l - szD1 x < 0) = true:=by simp only [decide_eq_true_eq]; omega
      rw [left_no (a:=szD x) (by unfold szD szD2; omega)]
      simp only [zW,zX,zD,builtinA,isLeaf,const1,ustrA,simprocAttr,ti3,ti9,ti26,ti100,ti144,ca6,ca93,cf,Try.results65,hn1]
  · rw [left_no hf,left_no (a:=szD x) (by unfold szD szD2 szD1; omega)]
    simp only [zW,zX,zD,builtinA,isLeaf,const1,ustrA,simprocAttr,ti3,ti9,ti26,ti100,ti144,ca6,ca93,cf,Try.results65]
set_option maxRecDepth 100000 in
theorem laws_szDeclS (ks : List DeI) (hl : ks.length < 2 ^ 63) (hk : ∀ t ∈ ks,t.Ok) (l : Int) (A : List Box) (h0 : 0 ≤ l) (h1 : l ≤ 1048576) :
    ACalls Try.prog 33 [.aslice (dEAs ks),.int .i64 l] A (fun v A'=>v = .int .i64 (left l (ks.length + szDs ks)) ∧ A' = A):=by
  have hw : IntKind.i64.wrap (l - ↑(dEAs ks).length) = l - ks.length:=by rw [dEAs_length]; exact wrap64 (by omega) (by omega)
  refine acalls_enter (cf:=cf 27 [0,1,4,5,11,15,25]) foll Try.func33 Try.ntmps33 (by simp [cf]) ?_
  simp only [Try.f33,EnterK_some,zW,zX,zD,builtinA,isLeaf,const1,ustrA,simprocAttr,ti3,ti36,ti144,ca65,cf,Try.results33]
  rw [hw]
  refine condK_intro (fun h=>?_) (fun h=>?_)
  · simp only [zW,zX,zD,builtinA,isLeaf,const1,ustrA,simprocAttr,ti3,ti36,ti144,ca65,cf,Try.results33]
    have : ¬ ((ks.length + szDs ks : Nat) : Int) ≤ l:=by simp at h; omega
    rw [left,if_neg this]
  · simp only [zW,zX,zD,builtinA,isLeaf,const1,ustrA,simprocAttr,ti3,ti36,ti144,ca65,cf,Try.results33]
    refine aloop_intro [0,1,5] (fun e A'=>∃ i,i ≤ ks.length ∧ ((ks.length + szDs (ks.take i) : Nat) : Int) ≤ l ∧ e = [(0,.aslice (dEAs ks)),(1,.int .i64 (l - (ks.length + szDs (ks.take i) : Nat))),(5,.int .i64 i)] ∧ A' = A) (fun e _=>ks.length - (intOf (Abs.look 5 e)).toNat) ?_ ?_
    · refine ⟨0,by omega,?_,?_,rfl⟩
      · simp at h; simp [szDs]; omega
      · simp only [zW,zX,zD,builtinA,isLeaf,const1,ustrA,simprocAttr,ti3,ti36,ti144,ca65,cf,Try.results33]
        simp [szDs]
    · rintro e A' ⟨i,hi,hle,rfl,rfl⟩
      simp only [zW,zX,zD,builtinA,isLeaf,const1,ustrA,simprocAttr,ti3,ti36,ti144,ca65,cf,Try.results33]
      refine condK_intro (fun h2=>?_) (fun h2=>?_)
      · have hi2 : i < ks.length:=by simp [dEAs_length] at h2; exact h2
        have he:=dEAs_getD hi2
        have hm:=de_mem hi2
        have hs:=szDs_take hi2
        simp only [zW,zX,zD,builtinA,isLeaf,const1,ustrA,simprocAttr,ti3,ti36,ti144,ca65,cf,Try.results33,he,dEA_length,dEA_take,dEAs_length]
        refine ⟨⟨by omega,by omega⟩,?_⟩
        refine callK_intro (by simp only [zW,zX,zD,builtinA,isLeaf,const1,ustrA,simprocAttr,frzL_dEA,Option.map_some]; rfl) (laws_szDecl _ (hk _ hm) _ _ (by omega) (by omega)) ?_ rfl; rintro v A' ⟨rfl,rfl⟩
        by_cases hf : ((ks.length + szDs (ks.take (i + 1)) : Nat) : Int) ≤ l
        · have hv : left (l - ((ks.length + szDs (ks.take i) : Nat) : Int)) (szD (ks.getD i de0)) = l - ((ks.length + szDs (ks.take (i + 1)) : Nat) : Int):=by
            rw [left,if_pos (by omega)]; omega
          have hn : decide (l - ((ks.length + szDs (ks.take (i + 1)) : Nat) : Int) < 0) = false:=by simp only [decide_eq_false_iff_not]; omega
          have hi1 : IntKind.i64.wrap ((i : Int) + 1) = ((i + 1 : Nat) : Int):=by rw [wrap64 (by omega) (by omega)]; rfl
          rw [hv]
          simp only [zW,zX,zD,builtinA,isLeaf,const1,ustrA,simprocAttr,ti3,ti36,ti144,ca65,cf,Try.results33,hn,hi1,LoopK_eq,dEAs_length]
          refine ⟨⟨i + 1,by omega,hf,rfl⟩,?_⟩
          simp only [intOf]
          omega
        · have hv : left (l - ((ks.length + szDs (ks.take i) : Nat) : Int)) (szD (ks.getD i de0)) = -1:=by
            rw [left,if_neg (by omega)]
          have hz:=szDs_le ks (i + 1)
          rw [hv,left,if_neg (by omega)]
          simp only [zW,zX,zD,builtinA,isLeaf,const1,ustrA,simprocAttr,ti3,ti36,ti144,ca65,cf,Try.results33]
      · simp only [zW,zX,zD,builtinA,isLeaf,const1,ustrA,simprocAttr,ti3,ti36,ti144,ca65,cf,Try.results33]
        have : i = ks.length:=by simp [dEAs_length] at h2; omega
        subst this
        rw [List.take_length] at hle ⊢
        rw [left,if_pos hle]
set_option maxRecDepth 100000 in
theorem laws_toDecl (x : DeI) (hx : szD x ≤ 1048576) (A : List Box) : ACalls Try.prog 68 [.agg (dEA x)] A (fun v A'=>v = .agg (dE x) ∧ A' = A):=by
  have h1 : szU x.un ≤ 1048576 ∧ x.args.length ≤ 1048576:=by unfold szD szD2 szD1 at hx; omega
  have htu:=fun A=>laws_toUnit x.un h1.1 A
  rw [uEA,uE] at htu
  rw [dEA,dE]
  refine acalls_enter (cf:=cf 19 [0,1,2,3]) foll Try.func68 Try.ntmps68 (by simp [cf]) ?_
  simp only [Try.f68,EnterK_some,zW,zX,zD,builtinA,isLeaf,const1,ustrA,simprocAttr,ti9,ti26,ti33,ti100,ti102,ti144,ca8,ca95,cf,Try.results68]
  refine callK_intro (by simp only [zW,zX,zD,builtinA,isLeaf,const1,ustrA,simprocAttr,Option.map_some]; rfl) (htu _) ?_ rfl; rintro v A' ⟨rfl,rfl⟩
  simp only [zW,zX,zD,builtinA,isLeaf,const1,ustrA,simprocAttr,ti9,ti26,ti33,ti100,ti102,ti144,ca8,ca95,cf,Try.results68]
  refine callK_intro (by simp only [zW,zX,zD,builtinA,isLeaf,const1,ustrA,simprocAttr,Option.map_some]; rfl) (laws_toStringS x.args h1.2 _) ?_ rfl; rintro v A' ⟨rfl,rfl⟩
  simp only [zW,zX,zD,builtinA,isLeaf,const1,ustrA,simprocAttr,ti9,ti26,ti33,ti100,ti102,ti144,ca8,ca95,cf,Try.results68]
theorem drow_step {l : List DeI} {i : Nat} (h : i < l.length) : (dEs (l.take i) ++ List.replicate (l.length - i) zde).set i (dE (l.getD i de0) ++ List.drop 7 ((dEs (l.take i) ++ List.replicate (l.length - i) zde).getD i [])) = dEs (l.take (i + 1)) ++ List.replicate (l.length - (i + 1)) zde:=by
  have e1 : (dEs (l.take i)).length = i:=by rw [dEs_length]; simp; omega
  have e2 : List.drop 7 ((dEs (l.take i) ++ List.replicate (l.length - i) zde).getD i []) = []:=by
    have e3 : l.length - i = (l.length - (i + 1)) + 1:=by omega
    rw [List.getD,List.getElem?_append_right (by omega),e1,Nat.sub_self,e3,List.replicate_succ]
    rfl
  have e4 : l.length - i = (l.length - (i + 1)) + 1:=by omega
  rw [e2,List.append_nil,List.set_append_right _ _ (by omega),e1,Nat.sub_self,e4,List.replicate_succ,List.set_cons_zero]
  simp only [dEs]
  rw [List.take_add_one,List.map_append,List.append_assoc]
  simp [List.getD,h]
set_option maxRecDepth 100000 in
theorem laws_toDeclS (ks : List DeI) (hl : ks.length ≤ 1048576) (hk : szDs ks ≤ 1048576) (A : List Box) :
    ACalls Try.prog 35 [.aslice (dEAs ks)] A (fun v A'=>v = .slice (dEs ks) ∧ A' = A):=by
  have hl2 : ((dEAs ks).length : Int) ≤ 1048576:=by rw [dEAs_length]; omega
  refine acalls_enter (cf:=cf 23 [0,2,3,4,11]) foll Try.func35 Try.ntmps35 (by simp [cf]) ?_
  simp only [Try.f35,EnterK_some,zW,zX,zD,builtinA,isLeaf,const1,ustrA,simprocAttr,ti3,ti36,ti47,ti102,ti144,ca68,cf,Try.results35]
  refine ⟨⟨by omega,by omega,by omega⟩,?_⟩
  refine aloop_intro [0,3,4] (fun e A'=>∃ i,i ≤ ks.length ∧ e = [(0,.aslice (dEAs ks)),(3,.own A.length),(4,.int .i64 i)] ∧ A' = A ++ [.row 7 (dEs (ks.take i) ++ List.replicate (ks.length - i) zde) 0]) (fun e _=>ks.length - (intOf (Abs.look 4 e)).toNat) ?_ ?_
  · simp only [zW,zX,zD,builtinA,isLeaf,const1,ustrA,simprocAttr,ti3,ti36,ti47,ti102,ti144,ca68,cf,Try.results35]
    exact ⟨0,by omega,rfl,by rw [dEAs_length]; simp [dEs,zde]⟩
  · rintro e A' ⟨i,hi,rfl,rfl⟩
    simp only [zW,zX,zD,builtinA,isLeaf,const1,ustrA,simprocAttr,ti3,ti36,ti47,ti102,ti144,ca68,cf,Try.results35,dEAs_length]
    refine condK_intro (fun h2=>?_) (fun h2=>?_)
    · have hi2 : i < ks.length:=by simpa using h2
      have he:=dEAs_getD hi2
      have hm:=de_mem hi2
      have hzm:=szDs_mem hm
      simp only [zW,zX,zD,builtinA,isLeaf,const1,ustrA,simprocAttr,ti3,ti36,ti47,ti102,ti144,ca68,cf,Try.results35,he,dEA_length,dEA_take,dEAs_length]
      refine ⟨⟨by omega,by omega⟩,?_⟩
      refine callK_intro (by simp only [zW,zX,zD,builtinA,isLeaf,const1,ustrA,simprocAttr,frzL_dEA,Option.map_some]; rfl) (laws_toDecl _ (by omega) _) ?_ rfl; rintro v A' ⟨rfl,rfl⟩
      have hi1 : IntKind.i64.wrap ((i : Int) + 1) = ((i + 1 : Nat) : Int):=by rw [wrap64 (by omega) (by omega)]; rfl
      simp only [zW,zX,zD,builtinA,isLeaf,const1,ustrA,simprocAttr,ti3,ti36,ti47,ti102,ti144,ca68,cf,Try.results35,dE_length,frzL_dE,drow_step hi2,hi1,LoopK_eq]
      have hlen : (dEs (List.take i ks)).length + (List.replicate (ks.length - i) zde).length = ks.length:=by
        simp [dEs_length]; omega
      rw [hlen]
      refine ⟨⟨by omega,by omega⟩,⟨by omega,by omega,fun v hv=>dE_leaf _ v hv⟩,⟨i + 1,by omega,rfl,rfl⟩,?_⟩
      simp only [intOf]
      omega
    · simp only [zW,zX,zD,builtinA,isLeaf,const1,ustrA,simprocAttr,ti3,ti36,ti47,ti102,ti144,ca68,cf,Try.results35]
      have : i = ks.length:=by simp at h2; omega
      subst this
      simp [List.take_length]
set_option maxRecDepth 100000 in
theorem laws_eqDecl (x : DeI) (hx : x.Ok) (A : List Box) : ACalls Try.prog 73 [.agg (dE x),.agg (dE x)] A (fun v A'=>v = .bool true ∧ A' = A):=by
  obtain ⟨hx1,hx2,hx3,hx4⟩:=hx
  have heu:=fun A=>laws_eqUnit x.un hx1 A
  rw [uE] at heu
  rw [dE]
  refine acalls_enter (cf:=cf 27 [0,1,2,3,4,10,15,20,26]) foll Try.func73 Try.ntmps73 (by simp [cf]) ?_
  simp only [Try.f73,EnterK_some,zW,zX,zD,builtinA,isLeaf,const1,ustrA,simprocAttr,ti9,ti33,ti100,ti102,ca10,ca101,cf,Try.results73]
  refine callK_intro (by simp only [zW,zX,zD,builtinA,isLeaf,const1,ustrA,simprocAttr,Option.map_some]; rfl) (heu _) ?_ rfl; rintro v A' ⟨rfl,rfl⟩
  simp only [zW,zX,zD,builtinA,isLeaf,const1,ustrA,simprocAttr,ti9,ti33,ti100,ti102,ca10,ca101,cf,Try.results73]
  refine callK_intro (by simp only [zW,zX,zD,builtinA,isLeaf,const1,ustrA,simprocAttr,Option.map_some]; rfl) (laws_eqStringS x.args hx4.1 _) ?_ rfl; rintro v A' ⟨rfl,rfl⟩
  simp only [zW,zX,zD,builtinA,isLeaf,const1,ustrA,simprocAttr,ti9,ti33,ti100,ti102,ca10,ca101,cf,Try.results73]
set_option maxRecDepth 100000 in
theorem laws_eqDeclS (ks : List DeI) (hl : ks.length < 2 ^ 63) (hk : ∀ t ∈ ks,t.Ok) (A : List Box) :
    ACalls Try.prog 39 [.slice (dEs ks),.slice (dEs ks)] A (fun v A'=>v = .bool true ∧ A' = A):=by
  refine acalls_enter (cf:=cf 27 [0,1,4,5,10,14,26]) foll Try.func39 Try.ntmps39 (by simp [cf]) ?_
  simp only [Try.f39,EnterK_some,zW,zX,zD,builtinA,isLeaf,const1,ustrA,simprocAttr,ti3,ti47,ti102,ca73,cf,Try.results39]
  refine aloop_intro [0,1,5] (fun e A'=>∃ i,i ≤ ks.length ∧ e = [(0,.slice (dEs ks)),(1,.slice (dEs ks)),(5,.int .i64 i)] ∧ A' = A) (fun e _=>ks.length - (intOf (Abs.look 5 e)).toNat) ?_ ?_
  · simp only [zW,zX,zD,builtinA,isLeaf,const1,ustrA,simprocAttr,ti3,ti47,ti102,ca73,cf,Try.results39]
    exact ⟨0,by omega,rfl⟩
  · rintro e A' ⟨i,hi,rfl,rfl⟩
    simp only [zW,zX,zD,builtinA,isLeaf,const1,ustrA,simprocAttr,ti3,ti47,ti102,ca73,cf,Try.results39,dEs_length]
    refine condK_intro (fun h2=>?_) (fun h2=>?_)
    · have hi2 : i < ks.length:=by simpa using h2
      have he:=dEs_getD hi2
      have hm:=de_mem hi2
      have hi1 : IntKind.i64.wrap ((i : Int) + 1) = ((i + 1 : Nat) : Int):=by rw [wrap64 (by omega) (by omega)]; rfl
      simp only [zW,zX,zD,builtinA,isLeaf,const1,ustrA,simprocAttr,ti3,ti47,ti102,ca73,cf,Try.results39,he,dE_length,dE_take,dEs_length]
      refine .inl ⟨by kernel_rfl,by kernel_rfl,⟨by omega,by omega⟩,⟨by omega,by omega⟩,?_⟩
      refine callD_intro (by simp only [zW,zX,zD,builtinA,isLeaf,const1,ustrA,simprocAttr,frzL_dE,Option.map_some] <;> rfl) (laws_eqDecl _ (hk _ hm) _) ?_ rfl
      simp only [zW,zX,zD,builtinA,isLeaf,const1,ustrA,simprocAttr,ti3,ti47,ti102,ca73,cf,Try.results39,hi1,LoopK_eq]
      refine ⟨⟨i + 1,by omega,rfl⟩,?_⟩
      simp only [intOf]
      omega
    · simp only [zW,zX,zD,builtinA,isLeaf,const1,ustrA,simprocAttr,ti3,ti47,ti102,ca73,cf,Try.results39]
structure PrI where
  decls : List DeI
  main : Ex
def DesOk (l : List DeI) : Prop:=l.length < 2 ^ 63 ∧ ∀ x ∈ l,x.Ok
def PrI.Ok (p : PrI) : Prop:=DesOk p.decls ∧ p.main.Ok
def gE (p : PrI) : List AV:=.slice (dEs p.decls) :: encX p.main
def gEA (p : PrI) : List AV:=.aslice (dEAs p.decls) :: encXA p.main
def szG1 (p : PrI) : Nat:=p.decls.length + szDs p.decls
def szG (p : PrI) : Nat:=szG1 p + szX p.main
theorem gE_length (x : PrI) : (gE x).length = 10:=by simp [gE,encX_length]
theorem gEA_length (x : PrI) : (gEA x).length = 10:=by simp [gEA,encXA_length]
theorem gE_take (x : PrI) : List.take 10 (gE x) = gE x:=List.take_of_length_le (by rw [gE_length]; exact Nat.le_refl _)
theorem gEA_take (x : PrI) : List.take 10 (gEA x) = gEA x:=List.take_of_length_le (by rw [gEA_length]; exact Nat.le_refl _)
theorem frzL_gE (x : PrI) (A : List Box) : frzL (gE x) A = some (gE x,A):=by obtain ⟨d,m⟩:=x; cases m; simp only [gE,encX]; rfl
theorem frzL_gEA (x : PrI) (A : List Box) : frzL (gEA x) A = some (gEA x,A):=by obtain ⟨d,m⟩:=x; cases m; simp only [gEA,encXA]; rfl
set_option maxRecDepth 100000 in
theorem laws_szProgram (p : PrI) (hp : p.Ok) (l : Int) (A : List Box) (h0 : 0 ≤ l) (h1 : l ≤ 1048576) :
    ACalls Try.prog 11 [.agg (gEA p),.int .i64 l] A (fun v A'=>v = .int .i64 (left l (szG p)) ∧ A' = A):=by
  obtain ⟨hd,hm⟩:=hp
  rw [gEA]
  refine acalls_enter (cf:=cf 18 [0,1,2,4,10,16]) foll Try.func11 Try.ntmps11 (by simp [cf]) ?_
  simp only [Try.f11,EnterK_some,zW,zX,zD,builtinA,isLeaf,const1,ustrA,simprocAttr,ti3,ti36,ti42,ti44,ti144,ca33,ca34,cf,Try.results11]
  refine ⟨by omega,?_⟩
  refine callK_intro (by simp only [zW,zX,zD,builtinA,isLeaf,const1,ustrA,simprocAttr,Option.map_some]; rfl) (laws_szDeclS p.decls hd.1 hd.2 _ _ (by omega) (by omega)) ?_ rfl; rintro v A' ⟨rfl,rfl⟩
  have e1 : p.decls.length + szDs p.decls = szG1 p:=rfl
  rw [e1]
  by_cases hf : ((szG1 p : Nat) : Int) ≤ l
  · have hl2:=left_add (l:=l) (a:=szG1 p) (b:=szX p.main) hf
    have e2 : szG1 p + szX p.main = szG p:=rfl
    rw [e2] at hl2
    have hn : decide (l - szG1 p < 0) = false:=by simp only [decide_eq_false_iff_not]; omega
    rw [left_yes hf]
    simp only [zW,zX,zD,builtinA,isLeaf,const1,ustrA,simprocAttr,ti3,ti36,ti42,ti44,ti144,ca33,ca34,cf,Try.results11,hn,encXA_take,encXA_length]
    refine callK_intro (by simp only [zW,zX,zD,builtinA,isLeaf,const1,ustrA,simprocAttr,frzL_encXA,Option.map_some]; rfl) (laws_szExpr p.main hm _ _ (by omega) (by omega)) ?_ rfl; rintro v A' ⟨rfl,rfl⟩
    rw [hl2]
    by_cases hg : ((szG p : Nat) : Int) ≤ l
    · have hn2 : decide (l - szG p < 0) = false:=by simp only [decide_eq_false_iff_not]; omega
      rw [left_yes hg]
      simp only [zW,zX,zD,builtinA,isLeaf,const1,ustrA,simprocAttr,ti3,ti36,ti42,ti44,ti144,ca33,ca34,cf,Try.results11,hn2]
    · rw [left_no hg]
      simp only [zW,zX,zD,builtinA,isLeaf,const1,ustrA,simprocAttr,ti3,ti36,ti42,ti44,ti144,ca33,ca34,cf,Try.results11]
  · rw [left_no hf,left_no (a:=szG p) (by unfold szG; omega)]
    simp only [zW,zX,zD,builtinA,isLeaf,const1,ustrA,simprocAttr,ti3,ti36,ti42,ti44,ti144,ca33,ca34,cf,Try.results11]
set_option maxRecDepth 100000 in
theorem laws_toProgram (p : PrI) (hp : szG p ≤ 1048576) (A : List Box) : ACalls Try.prog 13 [.agg (gEA p)] A (fun v A'=>v = .agg (gE p) ∧ A' = A):=by
  have h1 : p.decls.length ≤ 1048576 ∧ szDs p.decls ≤ 1048576 ∧ szX p.main ≤ 1048576:=by unfold szG szG1 at hp; omega
  rw [gEA,gE]
  refine acalls_enter (cf:=cf 13 [0,1,2,3]) foll Try.func13 Try.ntmps13 (by simp [cf]) ?_
  simp only [Try.f13,EnterK_some,zW,zX,zD,builtinA,isLeaf,const1,ustrA,simprocAttr,ti36,ti42,ti44,ti47,ti53,ti55,ti102,ti144,ca35,ca36,cf,Try.results13]
  refine ⟨by omega,?_⟩
  refine callK_intro (by simp only [zW,zX,zD,builtinA,isLeaf,const1,ustrA,simprocAttr,Option.map_some]; rfl) (laws_toDeclS p.decls h1.1 h1.2.1 _) ?_ rfl; rintro v A' ⟨rfl,rfl⟩
  simp only [zW,zX,zD,builtinA,isLeaf,const1,ustrA,simprocAttr,ti36,ti42,ti44,ti47,ti53,ti55,ti102,ti144,ca35,ca36,cf,Try.results13,encXA_take,encXA_length]
  refine callK_intro (by simp only [zW,zX,zD,builtinA,isLeaf,const1,ustrA,simprocAttr,frzL_encXA,Option.map_some]; rfl) (laws_toExpr p.main h1.2.2 _) ?_ rfl; rintro v A' ⟨rfl,rfl⟩
  have hcl : (encX p.main).all (closed1 A.length) = true:=List.all_eq_true.2 fun v hv=>leaf_closed1 (encX_leaf _ v hv)
  simp only [zW,zX,zD,builtinA,isLeaf,const1,ustrA,simprocAttr,ti36,ti42,ti44,ti47,ti53,ti55,ti102,ti144,ca35,ca36,cf,Try.results13,encX_take,encX_length,frzL_encX,hcl]
  try trace_state
set_option maxRecDepth 100000 in
theorem laws_eqProgram (p : PrI) (hp : p.Ok) (A : List Box) : ACalls Try.prog 15 [.agg (gE p),.agg (gE p)] A (fun v A'=>v = .bool true ∧ A' = A):=by
  obtain ⟨hd,hm⟩:=hp
  rw [gE]
  refine acalls_enter (cf:=cf 17 [0,1,2,3,4,10,16]) foll Try.func15 Try.ntmps15 (by simp [cf]) ?_
  simp only [Try.f15,EnterK_some,zW,zX,zD,builtinA,isLeaf,const1,ustrA,simprocAttr,ti47,ti53,ti55,ti102,ca39,ca40,cf,Try.results15]
  refine ⟨by omega,by omega,?_⟩
  refine callK_intro (by simp only [zW,zX,zD,builtinA,isLeaf,const1,ustrA,simprocAttr,Option.map_some]; rfl) (laws_eqDeclS p.decls hd.1 hd.2 _) ?_ rfl; rintro v A' ⟨rfl,rfl⟩
  simp only [zW,zX,zD,builtinA,isLeaf,const1,ustrA,simprocAttr,ti47,ti53,ti55,ti102,ca39,ca40,cf,Try.results15,encX_take,encX_length]
  refine callK_intro (by simp only [zW,zX,zD,builtinA,isLeaf,const1,ustrA,simprocAttr,frzL_encX,Option.map_some]; rfl) (laws_eqExpr p.main hm _) ?_ rfl; rintro v A' ⟨rfl,rfl⟩
  simp only [zW,zX,zD,builtinA,isLeaf,const1,ustrA,simprocAttr,ti47,ti53,ti55,ti102,ca39,ca40,cf,Try.results15]
theorem cD : Try.prog.cellsOf 144 = 7:=by kernel_rfl
theorem cDS : Try.prog.cellsOf 36 = 1:=by kernel_rfl
theorem cG : Try.prog.cellsOf 44 = 10:=by kernel_rfl
theorem seven_of {α : Type} {l : List α} (h : l.length = 7) : ∃ a b c d e f g,l = [a,b,c,d,e,f,g]:=by
  match l,h with
  | [a,b,c,d,e,f,g],_=>exact ⟨a,b,c,d,e,f,g,rfl⟩
theorem ten_of {α : Type} {l : List α} (h : l.length = 10) : ∃ a r,l = a :: r ∧ r.length = 9:=by
  match l,h with
  | a :: r,h=>exact ⟨a,r,rfl,by simpa using h⟩
theorem de_of {cz : List AV} (h : Cells Try.prog 144 cz) : ∃ x : DeI,cz = dEA x ∧ x.Ok:=by
  generalize ht : 144 = t at h
  cases h with
  | int h1 h2=>subst ht; rw [Try.underlying144] at h1; injection h1 with h1; cases h1
  | bool h1=>subst ht; rw [Try.underlying144] at h1; injection h1 with h1; cases h1
  | str h1=>subst ht; rw [Try.underlying144] at h1; injection h1 with h1; cases h1
  | slice h1 h2 h3=>subst ht; rw [Try.underlying144] at h1; injection h1 with h1; cases h1
  | @struct t fs cs h1 h2 h3 =>
    subst ht
    rw [Try.underlying144] at h1
    injection h1 with h1
    injection h1 with h1
    subst h1
    rw [cD] at h2
    obtain ⟨a,b,c,d,e,f,g,rfl⟩:=seven_of h2
    simp only [List.mem_cons,List.not_mem_nil,or_false,forall_eq_or_imp,forall_eq,c3,c9,cS,cT,cIS,cPS,cJS,cU,cX,cNS,cDS,List.drop_zero,List.drop_succ_cons,List.take_succ_cons,List.take_zero] at h3
    obtain ⟨u,e1,l1⟩:=un_of h3.1
    obtain ⟨m,e2,l2⟩:=cells_str Try.underlying9 h3.2.1
    obtain ⟨n,e3,l3⟩:=cells_str Try.underlying9 h3.2.2.1
    obtain ⟨ns,e4,l4⟩:=ns_of h3.2.2.2
    rw [uEA] at e1
    injection e1 with e1 e5; injection e5 with e5 e6; injection e6 with e6 e7; injection e7 with e7
    injection e2 with e2; injection e3 with e3; injection e4 with e4
    subst e1; subst e5; subst e6; subst e7; subst e2; subst e3; subst e4
    have hm : maxLen = 2 ^ 63 - 1:=rfl
    exact ⟨⟨u,m,n,ns⟩,rfl,l1,by show m.length < 2 ^ 63; omega,by show n.length < 2 ^ 63; omega,l4⟩
theorem des_of {cz : List AV} (h : Cells Try.prog 36 cz) : ∃ l,cz = [.aslice (dEAs l)] ∧ DesOk l:=by
  generalize ht : 36 = t at h
  cases h with
  | int h1 h2=>subst ht; rw [Try.underlying36] at h1; injection h1 with h1; cases h1
  | bool h1=>subst ht; rw [Try.underlying36] at h1; injection h1 with h1; cases h1
  | str h1=>subst ht; rw [Try.underlying36] at h1; injection h1 with h1; cases h1
  | slice h1 h2 h3 =>
    subst ht
    rw [Try.underlying36] at h1
    injection h1 with h1
    injection h1 with h1
    subst h1
    obtain ⟨ks,k1,k2,k3⟩:=list_enc (f:=dEA) (Q:=DeI.Ok) fun r hr=>de_of (h3 r hr)
    have hm : maxLen = 2 ^ 63 - 1:=rfl
    refine ⟨ks,by rw [dEAs,k1],?_,k3⟩
    rw [k2]; omega
  | @struct t fs cs h1 h2 h3=>subst ht; rw [Try.underlying36] at h1; injection h1 with h1; cases h1
theorem pr_of {cz : List AV} (h : Cells Try.prog 44 cz) : ∃ x : PrI,cz = gEA x ∧ x.Ok:=by
  generalize ht : 44 = t at h
  cases h with
  | int h1 h2=>subst ht; rw [Try.underlying44] at h1; injection h1 with h1; cases h1
  | bool h1=>subst ht; rw [Try.underlying44] at h1; injection h1 with h1; cases h1
  | str h1=>subst ht; rw [Try.underlying44] at h1; injection h1 with h1; cases h1
  | slice h1 h2 h3=>subst ht; rw [Try.underlying44] at h1; injection h1 with h1; cases h1
  | @struct t fs cs h1 h2 h3 =>
    subst ht
    rw [Try.underlying44] at h1
    injection h1 with h1
    injection h1 with h1
    subst h1
    rw [cG] at h2
    obtain ⟨a,l,rfl,hl⟩:=ten_of h2
    simp only [List.mem_cons,List.not_mem_nil,or_false,forall_eq_or_imp,forall_eq,cX,cDS,List.drop_zero,List.drop_succ_cons,List.take_succ_cons,List.take_zero] at h3
    obtain ⟨ds,e1,l1⟩:=des_of h3.1
    rw [List.take_of_length_le (by omega)] at h3
    obtain ⟨x,e2,l2⟩:=(ex_of h3.2).1 (Eq.refl _)
    injection e1 with e1
    subst e1; subst e2
    exact ⟨⟨ds,x⟩,rfl,l1,l2⟩
theorem plainG : plainB Try.prog [44,36,144,100,26,22,122,23,125,42,40,24,128,39,37,3,9] = true:=by kernel_rfl
section
variable {H : Type} {enc' : TypeId × Value → H} {W : World}
set_option maxRecDepth 100000 in
theorem rv_prog {v : Value} {d : DataW H} {p : List MemPlace} {r : Reach} {b0 : Nat} (hval : Value.okWide Try.prog W r b0 44 v) (h : DataW.Trod enc' Try.prog W 0 (fun _=>true) true 44 v d p) :
    ∃ x : PrI,x.Ok ∧ RV (Abs.start W) W (.agg (gEA x)) v:=by
  obtain ⟨xs,rfl,hs⟩:=okWide_struct Try.underlying44 hval
  obtain ⟨fuel,hf⟩:=h
  have hmem : 44 ∈ [44,36,144,100,26,22,122,23,125,42,40,24,128,39,37,3,9]:=.head _
  have hp:=plain_opened plainG fuel hmem hf
  obtain ⟨cz,ho⟩:=hp
  have hq:=pr_of ho.typed
  obtain ⟨x,he,hk⟩:=hq
  subst he
  exact ⟨x,hk,opened_agg ho⟩
end
end Go.Proofs.Ytijlnkfiadajhaa
/- The program's classes of lists: names. -/
set_option linter.unusedVariables false
set_option linter.unusedSimpArgs false
namespace Go.Proofs.Ytijlnkfiadajhaa
namespace CA
open Go.Abs
structure AL where
  b : Nat
  off : Nat
  hd : (List UInt8)
  tl : List (List UInt8)
def AL.ks (x : AL) : List (List UInt8):=x.hd :: x.tl
def AL.idn (x : AL) : Nat × Nat × Nat:=(x.b,x.off,x.ks.length)
def kvA (x : AL) : List AV:=[.ivptr x.b x.off ([AV.str x.hd]),.int .i64 (x.ks.length : Nat)]
def pl : CG.Pl AL:=⟨kvA,AL.idn,9,fun x y=>by
    have : decide (AL.idn x = AL.idn y) = (decide (x.b = y.b ∧ x.off = y.off) && (decide (((x.ks.length : Nat) : Int) = ((y.ks.length : Nat) : Int)) && true)):=by
      rw [Bool.eq_iff_iff]
      simp [AL.idn,Prod.mk.injEq]
      omega
    rw [this]
    simp [eqK,kvA,c1A],fun _=>rfl,fun _ _=>rfl⟩
abbrev KK : List (Nat × TK):=[(0,.ptr 9),(1,.int .i64)]
abbrev esM (m : List (AL × AL)) : List (AV × AV):=CG.es pl m
theorem fes (l : AL) (m : List (AL × AL)) : findA KK (kvA l) (esM m) 0 = some ((CG.fnd pl l m 0).map fun p=>(p.1,.agg (kvA p.2))):=CG.find_es pl l m 0
set_option maxRecDepth 100000 in
theorem find {U : List AL} (hU : ∀ x ∈ U,∀ y ∈ U,x.idn = y.idn → x = y) {R : AL → AL → Prop} (hR : ∀ x,R x x) (hRt : ∀ x y z,R x y → R y z → R x z) (m : List (AL × AL)) (hm : CG.CI U R m) (l : AL) (hl : l ∈ U) (i : Nat) (A : List Box) (hi : i < A.length) (hA : A.getD i .dead = .mapb (esM m)) :
    ACalls Try.prog 120 [.map i,.agg (kvA l)] A (fun r A'=>∃ x m',r = .agg (kvA x) ∧ x ∈ U ∧ R l x ∧ (∀ p ∈ m',p.1 ≠ x) ∧ CG.CI U R m' ∧ m'.map (·.1) = m.map (·.1) ∧ A' = A.set i (.mapb (esM m'))):=by
  have hgA : ∀ X (B : List Box),(A.set i X ++ B).getD i .dead = X:=fun X B=>by rw [getD_app1 _ _ _ _ (by simpa using hi),getD_set1 hi]
  have hset : A.set i (.mapb (esM m)) = A:=CG.set_same hi hA
  rw [kvA]
  refine acalls_enter (cf:=cf 29 [0,1,3,4,5,6,7,8,16,24]) foll Try.func120 Try.ntmps120 (by simp [cf]) ?_
  simp only [Try.f120,EnterK_some,zW,zX,zD,builtinA,isLeaf,const1,ustrA,simprocAttr,ti108,ti211,mi108,cf,Try.results120]
  refine aloop_intro [0,3,4] (fun e A'=>∃ l' m' B,e = [(0,.map i),(3,.ptr A.length 0),(4,.ptr (A.length + 1) 0)] ∧ A' = A.set i (.mapb (esM m')) ++ (.cells (kvA l') :: .cells [.nilp,.int .i64 0] :: B) ∧ l' ∈ U ∧ R l l' ∧ CG.CI U R m' ∧ m'.map (·.1) = m.map (·.1)) (fun _ A'=>CG.mu pl A.length i A') ?_ ?_
  · simp only [zW,zX,zD,builtinA,isLeaf,const1,ustrA,simprocAttr,ti108,ti211,mi108,cf,Try.results120]
    exact ⟨l,m,[],by rw [hset]; rfl,hl,hR l,hm,rfl⟩
  · rintro e A' ⟨l',m',B,rfl,rfl,hl',hr',hm',hk'⟩
    have hmu : CG.mu pl A.length i (A.set i (.mapb (esM m')) ++ (.cells (kvA l') :: .cells [.nilp,.int .i64 0] :: B)) = CG.posA pl (kvA l') (esM m'):=by
      unfold CG.mu
      rw [hgA,getD_sapp0]; rfl
    rw [hmu]
    have hf:=fes l' m'
    rw [kvA] at hf ⊢
    cases hfl : CG.fnd pl l' m' 0 with
    | none =>
      rw [hfl] at hf
      simp only [Option.map_none] at hf
      simp only [zW,zX,zD,builtinA,isLeaf,const1,ustrA,simprocAttr,ti108,ti211,mi108,cf,Try.results120,hi,hf]
      refine ⟨outer_set A _ i _ (CG.es_closed pl _ _),l',m',rfl,hl',hr',fun p hp e=>CG.fnd_none pl hfl p hp (by rw [e]),hm',hk',rfl⟩
    | some q =>
      obtain ⟨j,up⟩:=q
      rw [hfl] at hf
      simp only [Option.map_some] at hf
      obtain ⟨_,hj,hj1,hj2⟩:=CG.fnd_some pl hfl
      simp only [Nat.sub_zero] at hj hj1 hj2
      have hmj : m'[j]? = some (l',up):=by
        have e1 : m'[j]? = some m'[j]:=List.getElem?_eq_getElem hj
        have e2 : m'.getD j (l',l') = m'[j]:=by simp [List.getD,hj]
        rw [e2] at hj1 hj2
        have:=hU _ (hm'.mem _ (List.getElem_mem hj)).1 _ hl' hj1
        rw [e1]
        congr 1
        exact Prod.ext this hj2
      have hup:=(hm'.mem _ (List.mem_of_getElem? hmj)).2
      have hru : R l up:=hRt _ _ _ hr' hup.2
      have hf2:=fes up m'
      rw [kvA] at hf2
      rw [kvA] at hf
      have hpl : CG.posA pl (kvA l') (esM m') = m'.length - j:=by have:=CG.posA_es pl l' m'; rw [hfl] at this; exact this
      cases hfu : CG.fnd pl up m' 0 with
      | none =>
        rw [hfu] at hf2
        simp only [Option.map_none] at hf2
        have hpu : CG.posA pl (kvA up) (esM m') = 0:=by have:=CG.posA_es pl up m'; rw [hfu] at this; exact this
        simp only [zW,zX,zD,builtinA,isLeaf,const1,ustrA,simprocAttr,ti108,ti211,mi108,cf,Try.results120,hi,hf,hf2,LoopK_eq]
        refine ⟨⟨up,m',B ++ [.cells (kvA up),.cells [.nilp,.int .i64 0]],rfl,hup.1,hru,hm',hk'⟩,?_⟩
        unfold CG.mu
        rw [hgA,getD_sapp0]
        show CG.posA pl (kvA up) (esM m') < _
        rw [hpu]
        rw [kvA] at hpl
        rw [hpl]
        omega
      | some q2 =>
        obtain ⟨j2,top⟩:=q2
        rw [hfu] at hf2
        simp only [Option.map_some] at hf2
        rw [kvA] at hf2
        obtain ⟨_,hk,hk1,hk2⟩:=CG.fnd_some pl hfu
        simp only [Nat.sub_zero] at hk hk1 hk2
        have hmk : m'[j2]? = some (up,top):=by
          have e1 : m'[j2]? = some m'[j2]:=List.getElem?_eq_getElem hk
          have e2 : m'.getD j2 (up,up) = m'[j2]:=by simp [List.getD,hk]
          rw [e2] at hk1 hk2
          have:=hU _ (hm'.mem _ (List.getElem_mem hk)).1 _ hup.1 hk1
          rw [e1]
          congr 1
          exact Prod.ext this hk2
        have hjj : j < j2:=by
          rcases Nat.lt_or_ge j j2 with h' | h'
          · exact h'
          · exact absurd rfl (hm'.ord j2 j _ _ hmk hmj h')
        obtain ⟨c1,c2⟩:=hm'.cut hmj hmk hRt
        have hes : (esM m').set j (.agg [.ivptr l'.b l'.off ([AV.str l'.hd]),.int .i64 (l'.ks.length : Nat)],.agg [.ivptr top.b top.off ([AV.str top.hd]),.int .i64 (top.ks.length : Nat)]) = esM (m'.set j (l',top)):=by
          unfold esM CG.es
          rw [List.map_set]
          rfl
        have hpu : CG.posA pl (kvA up) (esM (m'.set j (l',top))) = m'.length - j2:=by
          have h1:=CG.posA_keys pl up c2
          have h2:=CG.posA_es pl up m'
          rw [hfu] at h2
          exact h1.trans h2
        simp only [zW,zX,zD,builtinA,isLeaf,const1,ustrA,simprocAttr,ti108,ti211,mi108,cf,Try.results120,hi,hf,hf2,hes,LoopK_eq]
        refine ⟨⟨up,m'.set j (l',top),B ++ [.cells (kvA up),.cells (kvA top)],rfl,hup.1,hru,c1,c2.trans hk'⟩,?_⟩
        unfold CG.mu
        rw [hgA,getD_sapp0]
        show CG.posA pl (kvA up) (esM (m'.set j (l',top))) < _
        rw [hpu]
        rw [kvA] at hpl
        rw [hpl]
        omega
set_option maxRecDepth 100000 in
theorem join {U : List AL} (hU : ∀ x ∈ U,∀ y ∈ U,x.idn = y.idn → x = y) {R : AL → AL → Prop} (hR : ∀ x,R x x) (hRt : ∀ x y z,R x y → R y z → R x z) (hRs : ∀ x y,R x y → R y x) (m : List (AL × AL)) (hm : CG.CI U R m) (x y : AL) (hx : x ∈ U) (hy : y ∈ U) (i : Nat) (A : List Box) (hi : i < A.length) (hA : A.getD i .dead = .mapb (esM m)) :
    ACalls Try.prog 114 [.map i,.islice x.b x.off (aEs x.ks),.islice y.b y.off (aEs y.ks)] A (fun r A'=>∃ m',A' = A.set i (.mapb (esM m')) ∧
      ((r = .bool false ∧ R x y ∧ CG.CI U R m') ∨ (r = .bool true ∧ (R x y → CG.CI U R m')))):=by
  have hgA : ∀ X (B : List Box),(A.set i X ++ B).getD i .dead = X:=fun X B=>by rw [getD_app1 _ _ _ _ (by simpa using hi),getD_set1 hi]
  have hxl : (aEs x.ks).length = x.ks.length:=aEs_length _
  have hyl : (aEs y.ks).length = y.ks.length:=aEs_length _
  have hx0 : decide (((x.ks.length : Nat) : Int) = 0) = false:=decide_eq_false (by simp [AL.ks]; omega)
  have hxg : (aEs x.ks).getD 0 [] = [AV.str x.hd]:=by simp [AL.ks,aEs]
  have hyg : (aEs y.ks).getD 0 [] = [AV.str y.hd]:=by simp [AL.ks,aEs]
  have hxp : 0 < x.ks.length:=by simp [AL.ks]
  have hyp : 0 < y.ks.length:=by simp [AL.ks]
  refine acalls_enter (cf:=cf 32 [0,1,2,6,7,8,11,28]) foll Try.func114 Try.ntmps114 (by simp [cf]) ?_
  simp only [Try.f114,EnterK_some,zW,zX,zD,builtinA,isLeaf,const1,ustrA,simprocAttr,ti3,ti9,ti100,ti108,ti211,ca120,mi108,ks211,cf,Try.results114]
  simp only [zW,zX,zD,builtinA,isLeaf,const1,ustrA,simprocAttr,ti3,ti9,ti100,ti108,ti211,ca120,mi108,ks211,cf,Try.results114,hxl,hyl,hx0,hxg,hyg,aEs_length]
  refine ⟨by omega,?_⟩
  refine callK_intro (by simp only [zW,zX,zD,builtinA,isLeaf,const1,ustrA,simprocAttr]; rfl) (find hU hR hRt m hm x hx i _ hi hA) ?_ rfl
  rintro v A' ⟨x',m1,rfl,hx',hrx,hnx,hm1,hk1,rfl⟩
  rw [kvA]
  simp only [zW,zX,zD,builtinA,isLeaf,const1,ustrA,simprocAttr,ti3,ti9,ti100,ti108,ti211,ca120,mi108,ks211,cf,Try.results114,hi,hxl,hyl,hx0,hxg,hyg,aEs_length]
  refine ⟨by omega,?_⟩
  refine callK_intro (by simp only [zW,zX,zD,builtinA,isLeaf,const1,ustrA,simprocAttr]; rfl) (find hU hR hRt m1 hm1 y hy i _ (by simp; omega) (hgA _ _)) ?_ rfl
  rintro v A' ⟨y',m2,rfl,hy',hry,hny,hm2,hk2,rfl⟩
  have hnx2 : ∀ p ∈ m2,p.1 ≠ x':=fun p hp e=>by
    have : p.1 ∈ m2.map (·.1):=List.mem_map_of_mem hp
    rw [hk2] at this
    obtain ⟨q,hq,he⟩:=List.mem_map.1 this
    exact hnx q hq (he.trans e)
  rw [kvA]
  by_cases he : x' = y'
  · subst he
    simp only [zW,zX,zD,builtinA,isLeaf,const1,ustrA,simprocAttr,ti3,ti9,ti100,ti108,ti211,ca120,mi108,ks211,cf,Try.results114,hi,hxl,hyl,aEs_length]
    exact ⟨outer_set A _ i _ (CG.es_closed pl _ _),m2,rfl,.inl ⟨hRt _ _ _ hrx (hRs _ _ hry),hm2⟩⟩
  · have hne : (decide (x'.b = y'.b ∧ x'.off = y'.off) && decide (((x'.ks.length : Nat) : Int) = ((y'.ks.length : Nat) : Int))) = false:=by
      rw [Bool.eq_false_iff]
      intro hh
      simp only [Bool.and_eq_true,decide_eq_true_eq] at hh
      refine he (hU _ hx' _ hy' ?_)
      simp only [AL.idn,Prod.mk.injEq]
      exact ⟨hh.1.1,hh.1.2,by omega⟩
    have hfn : CG.fnd pl x' m2 0 = none:=by
      cases hq : CG.fnd pl x' m2 0 with
      | none=>rfl
      | some q =>
        obtain ⟨j,v⟩:=q
        obtain ⟨_,hj,hj1,_⟩:=CG.fnd_some pl hq
        simp only [Nat.sub_zero] at hj hj1
        have e2 : m2.getD j (x',x') = m2[j]:=by simp [List.getD,hj]
        rw [e2] at hj1
        exact absurd (hU _ (hm2.mem _ (List.getElem_mem hj)).1 _ hx' hj1) (hnx2 _ (List.getElem_mem hj))
    have hf:=fes x' m2
    rw [hfn,kvA] at hf
    simp only [Option.map_none] at hf
    have hes : esM m2 ++ [(.agg [.ivptr x'.b x'.off ([AV.str x'.hd]),.int .i64 (x'.ks.length : Nat)],.agg [.ivptr y'.b y'.off ([AV.str y'.hd]),.int .i64 (y'.ks.length : Nat)])] = esM (m2 ++ [(x',y')]):=by
      simp [esM,CG.es,pl,kvA]
    simp only [zW,zX,zD,builtinA,isLeaf,const1,ustrA,simprocAttr,ti3,ti9,ti100,ti108,ti211,ca120,mi108,ks211,cf,Try.results114,hi,hxl,hyl,aEs_length]
    rw [hne]
    simp only [zW,zX,zD,builtinA,isLeaf,const1,ustrA,simprocAttr,ti3,ti9,ti100,ti108,ti211,ca120,mi108,ks211,cf,Try.results114,hi,hf,hes]
    refine ⟨outer_set A _ i _ (CG.es_closed pl _ _),m2 ++ [(x',y')],rfl,.inr fun h4=>?_⟩
    exact hm2.push hx' hy' (hRt _ _ _ (hRs _ _ hrx) (hRt _ _ _ h4 hry)) hny he
set_option maxRecDepth 100000 in
theorem join0 (i : Nat) (A : List Box) : ACalls Try.prog 114 [.map i,.slice [],.slice []] A (fun r A'=>r = .bool false ∧ A' = A):=by
  refine acalls_enter (cf:=cf 32 [0,1,2,6,7,8,11,28]) foll Try.func114 Try.ntmps114 (by simp [cf]) ?_
  simp only [Try.f114,EnterK_some,zW,zX,zD,builtinA,isLeaf,const1,ustrA,simprocAttr,ti3,ti9,ti100,ti108,ti211,ca120,mi108,ks211,cf,Try.results114]
set_option maxRecDepth 100000 in
theorem eqf {D S : List Nat} {I : List Box → Prop} (hK : CG.Kp D S I) {g : FuncId} (hg : callable Try.prog g = true) (fs cs : List AV) (eq : (List UInt8) → (List UInt8) → Bool) (a b : List (List UInt8)) (hcall : ∀ x ∈ a,∀ y ∈ b,CG.Cmp Try.prog S I g (fs ++ [.str x,.str y] ++ cs) (eq x y)) (hla : a.length ≤ 1048576) (b1 o1 b2 o2 : Nat) : CG.Cmp Try.prog S I 115 [.islice b1 o1 (aEs a),.islice b2 o2 (aEs b),.func (.func g) fs cs] (CG.allB eq a b):=by
  intro A hA
  have hT:=CG.Chg.rfl hK hA
  by_cases hl : a.length = b.length
  · have hd : decide ((a.length : Int) = (b.length : Int)) = true:=decide_eq_true (by omega)
    refine acalls_enter (cf:=cf 32 [0,1,2,6,7,8,9,14,15,16,17,18,30]) foll Try.func115 Try.ntmps115 (by simp [cf]) ?_
    simp only [Try.f115,EnterK_some,zW,zX,zD,builtinA,isLeaf,const1,ustrA,simprocAttr,ti3,ti9,ti100,cf,Try.results115]
    simp only [zW,zX,zD,builtinA,isLeaf,const1,ustrA,simprocAttr,ti3,ti9,ti100,cf,Try.results115,aEs_length,hd]
    refine aloop_intro [1,2,15,16,17] (fun e A'=>∃ (i : Nat) (A1 B : List Box),i ≤ a.length ∧ CG.allB eq (a.drop i) (b.drop i) = CG.allB eq a b ∧ e = [(1,.islice b2 o2 (aEs b)),(2,.func (.func g) fs cs),(15,.islice b1 o1 (aEs a)),(16,.int .i64 a.length),(17,.int .i64 i)] ∧ A' = A1 ++ B ∧ CG.Chg S A A1 ∧ I A1) (fun e _=>a.length - (intOf (Abs.look 17 e)).toNat) ?_ ?_
    · simp only [zW,zX,zD,builtinA,isLeaf,const1,ustrA,simprocAttr,ti3,ti9,ti100,cf,Try.results115,aEs_length]
      exact ⟨0,A,[],by omega,rfl,rfl,by simp,hT,hA⟩
    · rintro e A' ⟨i,A1,B,hi2,hq,rfl,rfl,hc1,hI1⟩
      simp only [zW,zX,zD,builtinA,isLeaf,const1,ustrA,simprocAttr,ti3,ti9,ti100,cf,Try.results115,aEs_length]
      refine condK_intro (fun h2=>?_) (fun h2=>?_)
      · have hi3 : i < a.length:=by simpa using h2
        have hj2 : i < b.length:=by omega
        rw [CG.allB_at [] a b hi3 hj2] at hq
        have e1:=aEs_getD hi3
        have e2:=aEs_getD hj2
        have hxa : a.getD i [] ∈ a:=by simp [List.getD,hi3]
        have hxb : b.getD i [] ∈ b:=by simp [List.getD,hj2]
        have hi1 : IntKind.i64.wrap ((i : Int) + 1) = ((i + 1 : Nat) : Int):=by rw [wrap64 (by omega) (by omega)]; rfl
        generalize a.getD i [] = x at *
        generalize b.getD i [] = y at *
        have pa : (0 : Int) ≤ (i : Int) ∧ (i : Int) < (a.length : Int):=⟨by omega,by omega⟩
        have pb : (0 : Int) ≤ (i : Int) ∧ (i : Int) < (b.length : Int):=⟨by omega,by omega⟩
        have hcl:=fun L=>hcall x hxa y hxb (A1 ++ L) (hK.app hI1 L)
        have hlt:=hK.lt A1 hI1
        simp only [zW,zX,zD,builtinA,isLeaf,const1,ustrA,simprocAttr,ti3,ti9,ti100,cf,Try.results115,e1,e2,aEs_length,aEs_length,aEs_length]
        refine ⟨pa,pb,?_⟩
        refine wpO_callv _ _ _ _ _ _ _ _ _ _ _ _ _ _ _ ?_
        simp only [zW,zX,zD,builtinA,isLeaf,const1,ustrA,simprocAttr,ti3,ti9,ti100,cf,Try.results115]
        refine ⟨hg,callO_intro (by simpa using hcl _) ?_⟩
        rintro r A' ⟨rfl,hc2,hI2⟩
        obtain ⟨A2,L2,rfl,hc3,_⟩:=hc2.split fun k hk=>hlt k (hK.sub k hk)
        have hc4:=hc1.trans hc3
        cases hh : eq x y with
        | true =>
          rw [hh,Bool.true_and] at hq
          simp only [zW,zX,zD,builtinA,isLeaf,const1,ustrA,simprocAttr,ti3,ti9,ti100,cf,Try.results115,hi1,LoopK_eq]
          refine ⟨⟨i + 1,A2,L2,by omega,hq,rfl,rfl,hc4,hK.cut (hI2 hh) fun k hk=>by rw [hc3.1]; exact hlt k hk⟩,?_⟩
          simp only [intOf]; omega
        | false =>
          rw [hh,Bool.false_and] at hq
          simp only [zW,zX,zD,builtinA,isLeaf,const1,ustrA,simprocAttr,ti3,ti9,ti100,cf,Try.results115]
          rw [hc4.take]
          exact ⟨hc4.outer _,by rw [← hq],hc4,fun h=>by rw [← hq] at h; cases h⟩
      · have : i = a.length:=by simp at h2; omega
        subst this
        have hb0 : b.drop a.length = []:=by simp; omega
        rw [List.drop_length,hb0,CG.allB] at hq
        simp only [zW,zX,zD,builtinA,isLeaf,const1,ustrA,simprocAttr,ti3,ti9,ti100,cf,Try.results115]
        rw [hc1.take]
        exact ⟨hc1.outer _,by rw [← hq],hc1,fun _=>hI1⟩
  · have hd : decide ((a.length : Int) = (b.length : Int)) = false:=decide_eq_false (by omega)
    rw [CG.allB_len (by simpa using hl)]
    refine acalls_enter (cf:=cf 32 [0,1,2,6,7,8,9,14,15,16,17,18,30]) foll Try.func115 Try.ntmps115 (by simp [cf]) ?_
    simp only [Try.f115,EnterK_some,zW,zX,zD,builtinA,isLeaf,const1,ustrA,simprocAttr,ti3,ti9,ti100,cf,Try.results115]
    simp only [zW,zX,zD,builtinA,isLeaf,const1,ustrA,simprocAttr,ti3,ti9,ti100,cf,Try.results115,aEs_length,hd]
    exact hT
def oVA : Option AL → AV
  | none=>.slice []
  | some x=>.islice x.b x.off (aEs x.ks)
def oKA : Option AL → List (List UInt8)
  | none=>[]
  | some x=>x.ks
set_option maxRecDepth 100000 in
theorem same {δ : Type} {U : List AL} (hU : ∀ x ∈ U,∀ y ∈ U,x.idn = y.idn → x = y) (er : (List UInt8) → δ) {D S : List Nat} {J : List Box → Prop} (hK : CG.Kp D S J) {g : FuncId} (hg : callable Try.prog g = true) (fs cs : List AV) (eq : (List UInt8) → (List UInt8) → Bool) (heq : ∀ x y,eq x y = true ↔ er x = er y) (x y : Option AL) (hx : ∀ l,x = some l → l ∈ U) (hy : ∀ l,y = some l → l ∈ U)
    (hcall : ∀ a ∈ oKA x,∀ b ∈ oKA y,CG.Cmp Try.prog S J g (fs ++ [.str a,.str b] ++ cs) (eq a b)) (hla : (oKA x).length ≤ 1048576) (is : Nat) (his : is ∉ D) :
    CG.Cmp Try.prog (S ++ [is]) (fun A=>J A ∧ CG.ClM pl U (fun x y=>x.ks.map er = y.ks.map er) is A) 100 [.map is,oVA x,oVA y,.func (.func g) fs cs] (CG.allB eq (oKA x) (oKA y)):=by
  intro A ⟨hJ,hM⟩
  have hK2:=hK.and (CG.ClM.kp pl U (fun x y=>x.ks.map er = y.ks.map er) is)
  have hT:=CG.Chg.rfl hK2 ⟨hJ,hM⟩
  have hTA : (A ++ []).take A.length = A:=hT.take []
  cases x with
  | none =>
    cases y with
    | none =>
      simp only [oVA,oKA]
      refine acalls_enter (cf:=cf 27 [0,1,2,3,8]) foll Try.func100 Try.ntmps100 (by simp [cf]) ?_
      simp only [Try.f100,EnterK_some,zW,zX,zD,builtinA,isLeaf,const1,ustrA,simprocAttr,ti3,ti9,ti100,ca114,ca115,cf,Try.results100]
      refine callO_intro (join0 is A) ?_
      rintro r A' ⟨rfl,rfl⟩
      simp only [zW,zX,zD,builtinA,isLeaf,const1,ustrA,simprocAttr,ti3,ti9,ti100,ca114,ca115,cf,Try.results100]
      exact ⟨rfl,hT,fun _=>⟨hJ,hM⟩⟩
    | some y =>
      have hd : decide ((0 : Int) = (y.ks.length : Int)) = false:=decide_eq_false (by simp [AL.ks]; omega)
      simp only [oVA,oKA]
      refine acalls_enter (cf:=cf 27 [0,1,2,3,8]) foll Try.func100 Try.ntmps100 (by simp [cf]) ?_
      simp only [Try.f100,EnterK_some,zW,zX,zD,builtinA,isLeaf,const1,ustrA,simprocAttr,ti3,ti9,ti100,ca114,ca115,cf,Try.results100]
      simp only [zW,zX,zD,builtinA,isLeaf,const1,ustrA,simprocAttr,ti3,ti9,ti100,ca114,ca115,cf,Try.results100,aEs_length,hd]
      exact ⟨by simp [AL.ks,CG.allB],hT,fun _=>⟨hJ,hM⟩⟩
  | some x =>
    cases y with
    | none =>
      have hd : decide ((x.ks.length : Int) = 0) = false:=decide_eq_false (by simp [AL.ks]; omega)
      simp only [oVA,oKA]
      refine acalls_enter (cf:=cf 27 [0,1,2,3,8]) foll Try.func100 Try.ntmps100 (by simp [cf]) ?_
      simp only [Try.f100,EnterK_some,zW,zX,zD,builtinA,isLeaf,const1,ustrA,simprocAttr,ti3,ti9,ti100,ca114,ca115,cf,Try.results100]
      simp only [zW,zX,zD,builtinA,isLeaf,const1,ustrA,simprocAttr,ti3,ti9,ti100,ca114,ca115,cf,Try.results100,aEs_length,hd]
      exact ⟨by simp [AL.ks,CG.allB],hT,fun _=>⟨hJ,hM⟩⟩
    | some y =>
      simp only [oVA,oKA] at hcall hla ⊢
      have hxU:=hx x rfl
      have hyU:=hy y rfl
      have hiff:=CG.allB_iff heq x.ks y.ks
      by_cases hl : x.ks.length = y.ks.length
      · have hd : decide ((x.ks.length : Int) = (y.ks.length : Int)) = true:=decide_eq_true (by omega)
        obtain ⟨hiA,m,hm,hci⟩:=hM
        have hput : ∀ m',J (A.set is (.mapb (esM m'))):=fun m'=>hK.loc A _ (fun k hk=>by rw [Abs.getD_set_ne' (fun e=>his (by rw [e]; exact hk))]) hJ
        have hchg : ∀ m',CG.Chg (S ++ [is]) A (A.set is (.mapb (esM m'))):=fun m'=>⟨by simp,fun k hk=>by rw [Abs.getD_set_ne' (fun e=>hk (by simp [e]))],fun k hk n=>by
          by_cases e : k = is
          · subst e; rw [Abs.getD_set_self hiA]; exact CG.es_closed pl n m'
          · rw [Abs.getD_set_ne' (Ne.symm e)]; exact hT.2.2 k hk n⟩
        have hcm : ∀ m' (A' : List Box),A'.length = A.length → A'.getD is .dead = .mapb (esM m') → CG.CI U (fun x y=>x.ks.map er = y.ks.map er) m' → CG.ClM pl U (fun x y=>x.ks.map er = y.ks.map er) is A':=fun m' A' h1 h2 h3=>⟨by omega,m',h2,h3⟩
        refine acalls_enter (cf:=cf 27 [0,1,2,3,8]) foll Try.func100 Try.ntmps100 (by simp [cf]) ?_
        simp only [Try.f100,EnterK_some,zW,zX,zD,builtinA,isLeaf,const1,ustrA,simprocAttr,ti3,ti9,ti100,ca114,ca115,cf,Try.results100]
        simp only [zW,zX,zD,builtinA,isLeaf,const1,ustrA,simprocAttr,ti3,ti9,ti100,ca114,ca115,cf,Try.results100,aEs_length,hd]
        refine callO_intro (join (R:=fun x y=>x.ks.map er = y.ks.map er) hU (fun _=>rfl) (fun _ _ _ h k=>h.trans k) (fun _ _ h=>h.symm) m hci x y hxU hyU is A hiA hm) ?_
        rintro r A' ⟨m',rfl,⟨rfl,hr,hci'⟩ | ⟨rfl,hr⟩⟩
        · have h1:=hput m'
          have h2:=hchg m'
          have h3:=hcm m' _ (by simp) (Abs.getD_set_self hiA) hci'
          generalize A.set is (.mapb (esM m')) = A1 at *
          have h4:=h2.outer []
          have h5:=h2.take []
          rw [List.append_nil] at h4 h5
          simp only [zW,zX,zD,builtinA,isLeaf,const1,ustrA,simprocAttr,ti3,ti9,ti100,ca114,ca115,cf,Try.results100]
          rw [h5]
          exact ⟨h4,by rw [hiff.2 hr],h2,fun _=>⟨h1,h3⟩⟩
        · have h1:=hput m'
          have h2:=hchg m'
          have h3:=hcm m'
          have h6 : (A.set is (.mapb (esM m'))).getD is .dead = .mapb (esM m'):=Abs.getD_set_self hiA
          generalize A.set is (.mapb (esM m')) = A1 at *
          have heqf:=eqf hK hg fs cs eq x.ks y.ks hcall hla x.b x.off y.b y.off A1 h1
          simp only [zW,zX,zD,builtinA,isLeaf,const1,ustrA,simprocAttr,ti3,ti9,ti100,ca114,ca115,cf,Try.results100]
          refine callO_intro heqf ?_
          rintro r A' ⟨rfl,q2,q3⟩
          have hl1:=h2.1
          have hl2:=q2.1
          have q4 : CG.Chg (S ++ [is]) A A':=⟨by omega,fun k hk=>by rw [q2.2.1 k (fun h=>hk (by simp [h])),h2.2.1 k hk],fun k hk n=>by
            by_cases e : k ∈ S
            · exact q2.2.2 k e n
            · rw [q2.2.1 k e]; exact h2.2.2 k hk n⟩
          have q5 : A'.getD is .dead = .mapb (esM m'):=by rw [q2.2.1 is (fun h=>his (hK.sub is h))]; exact h6
          have h4:=q4.outer []
          have h5:=q4.take []
          rw [List.append_nil] at h4 h5
          simp only [zW,zX,zD,builtinA,isLeaf,const1,ustrA,simprocAttr,ti3,ti9,ti100,ca114,ca115,cf,Try.results100]
          rw [h5]
          exact ⟨h4,q4,fun hb=>⟨q3 hb,h3 A' (by omega) q5 (hr (hiff.1 hb))⟩⟩
      · have hd : decide ((x.ks.length : Int) = (y.ks.length : Int)) = false:=decide_eq_false (by omega)
        rw [CG.allB_len (by simpa using hl)]
        refine acalls_enter (cf:=cf 27 [0,1,2,3,8]) foll Try.func100 Try.ntmps100 (by simp [cf]) ?_
        simp only [Try.f100,EnterK_some,zW,zX,zD,builtinA,isLeaf,const1,ustrA,simprocAttr,ti3,ti9,ti100,ca114,ca115,cf,Try.results100]
        simp only [zW,zX,zD,builtinA,isLeaf,const1,ustrA,simprocAttr,ti3,ti9,ti100,ca114,ca115,cf,Try.results100,aEs_length,hd]
        exact hT
end CA
end Go.Proofs.Ytijlnkfiadajhaa
/- Declarations whose memory is known. -/
set_option linter.unusedVariables false
set_option linter.unusedSimpArgs false
namespace Go.Proofs.Ytijlnkfiadajhaa
open Go.Abs
structure DeJ where
  un : UnJ
  made : List UInt8
  functor : List UInt8
  args : Option CA.AL
def ej0 : DeJ:=⟨⟨[],none,none,none⟩,[],[],none⟩
def eE (x : DeJ) : List AV:=[.str x.un.name,CP.oVP x.un.params,oVK x.un.body,oV x.un.face,.str x.made,.str x.functor,CA.oVA x.args]
def eEs (l : List DeJ) : List (List AV):=l.map eE
def erD (x : DeJ) : DeI:=⟨erU x.un,x.made,x.functor,CA.oKA x.args⟩
theorem oVP_leaf (o : Option CP.PL) : isLeaf (CP.oVP o) = true:=by cases o <;> rfl
theorem oVK_leaf (o : Option KL) : isLeaf (oVK o) = true:=by cases o <;> rfl
theorem oVA_leaf (o : Option CA.AL) : isLeaf (CA.oVA o) = true:=by cases o <;> rfl
theorem eE_length (x : DeJ) : (eE x).length = 7:=rfl
theorem eE_take (x : DeJ) : List.take 7 (eE x) = eE x:=rfl
theorem eE_leaf (x : DeJ) : ∀ v ∈ eE x,isLeaf v = true:=by
  intro v hv
  simp only [eE,List.mem_cons,List.not_mem_nil,or_false] at hv
  rcases hv with rfl | rfl | rfl | rfl | rfl | rfl | rfl
  · rfl
  · exact oVP_leaf _
  · exact oVK_leaf _
  · exact oV_leaf _
  · rfl
  · rfl
  · exact oVA_leaf _
theorem eEs_length (l : List DeJ) : (eEs l).length = l.length:=by simp [eEs]
theorem eEs_getD {l : List DeJ} {i : Nat} (h : i < l.length) : (eEs l).getD i [] = eE (l.getD i ej0):=by simp [eEs,List.getD,h]
end Go.Proofs.Ytijlnkfiadajhaa
