/- SameMX. -/
import Derived.Test.YtnjdbgiincliaaaGreatX08
import Derived.Test.YtnjdbgiincliaaaGreatAbsW3
/- The program's comparison of expressions, with what is known of earlier ones. -/
set_option linter.unusedVariables false
set_option linter.unusedSimpArgs false
namespace Go.Proofs.YtnjdbgiincliaaaGreat.SX
open Go.Abs
theorem g2_0 {A B : List Box} {i j : Nat} {x y d : Box} : ((A.set i x).set j y ++ B).getD A.length d = B.getD 0 d:=by
  have e : ((A.set i x).set j y).length = A.length:=by simp
  rw [← e]; exact getD_app0 _ _ _
theorem g2_k {A B : List Box} {i j k : Nat} {x y d : Box} : ((A.set i x).set j y ++ B).getD (A.length + k) d = B.getD k d:=by
  have e : ((A.set i x).set j y).length = A.length:=by simp
  rw [← e]; exact getD_app _ _ _ _
theorem s2_0 {A B : List Box} {i j : Nat} {x y z : Box} : ((A.set i x).set j y ++ B).set A.length z = (A.set i x).set j y ++ B.set 0 z:=by
  have e : ((A.set i x).set j y).length = A.length:=by simp
  rw [← e]; exact set_app0 _ _ _
theorem s2_k {A B : List Box} {i j k : Nat} {x y z : Box} : ((A.set i x).set j y ++ B).set (A.length + k) z = (A.set i x).set j y ++ B.set k z:=by
  have e : ((A.set i x).set j y).length = A.length:=by simp
  rw [← e]; exact Abs.set_app _ _ _ _
theorem tk2 {A B : List Box} {i j : Nat} {x y : Box} : List.take A.length ((A.set i x).set j y ++ B) = (A.set i x).set j y:=by
  have e : ((A.set i x).set j y).length = A.length:=by simp
  rw [← e,List.take_left]
theorem outer2 (A B : List Box) (i j : Nat) (X Y : Box) (hX : boxClosed A.length X = true) (hY : boxClosed A.length Y = true) : Outer A ((A.set i X).set j Y ++ B):=by
  refine ⟨by simp,fun k hk=>?_⟩
  rw [Abs.getD_append_left (by simpa using hk)]
  by_cases hj : j = k
  · subst hj; rw [getD_set_self (by simpa using hk)]; exact .inr hY
  · rw [getD_set_ne' hj]
    by_cases hi : i = k
    · subst hi; rw [getD_set_self hk]; exact .inr hX
    · rw [getD_set_ne' hi]; exact .inl rfl
set_option maxRecDepth 100000 in
set_option maxHeartbeats 4000000 in
theorem sameI {U : List LL} (hU : Univ U) (hN : U.length ≤ 100000000) (hL : ∀ x ∈ U,x.ks.length ≤ 1000000000) (a0 b0 : IEx) (ha : ∀ x,below a0 = some x → x ∈ U) (hb : ∀ x,below b0 = some x → x ∈ U)
    {UT : List tLL} (hUT : TUs UT) (hTU : ∀ x ∈ U,∀ t ∈ x.ks,TU UT (argX t)) (hTa : TU UT (argX a0)) (hTb : TU UT (argX b0)) (i : Nat) (m0 : List (LL × LL)) (h0 : ClS U m0) (it bt : Nat) (mt0 : List (tLL × tLL)) (ht0 : tClS UT mt0) (A : List Box) (hi : i < A.length) (hA : A.getD i .dead = .mapb (esOf m0))
    (hit : it < A.length) (hbt : bt < A.length) (hii : i ≠ it) (hib : i ≠ bt) (htb : it ≠ bt) (hAt : A.getD it .dead = .mapb (tEs mt0)) (hAb : A.getD bt .dead = .cells [Go.Proofs.YtnjdbgiincliaaaGreat.tF1,Go.Proofs.YtnjdbgiincliaaaGreat.tF2,.map it]) :
    ACalls Tryz.prog 154 [.agg [xF1,xF2 bt,.map i],.agg (encI a0),.agg (encI b0)] A (fun r A'=>∃ m' mt',A' = (A.set i (.mapb (esOf m'))).set it (.mapb (tEs mt')) ∧ r = .bool (decide (erase a0 = erase b0)) ∧ (erase a0 = erase b0 → ClS U m' ∧ tClS UT mt')):=by
  have hgA : ∀ X Y (B : List Box),((A.set i X).set it Y ++ B).getD i .dead = X:=fun X Y B=>by rw [getD_app1 _ _ _ _ (by simpa using hi),getD_set_ne' (Ne.symm hii),getD_set1 hi]
  have hgT : ∀ X Y (B : List Box),((A.set i X).set it Y ++ B).getD it .dead = Y:=fun X Y B=>by rw [getD_app1 _ _ _ _ (by simpa using hit),getD_set_self (by simpa using hit)]
  have hgB : ∀ X Y (B : List Box),((A.set i X).set it Y ++ B).getD bt .dead = .cells [Go.Proofs.YtnjdbgiincliaaaGreat.tF1,Go.Proofs.YtnjdbgiincliaaaGreat.tF2,.map it]:=fun X Y B=>by rw [getD_app1 _ _ _ _ (by simpa using hbt),getD_set_ne' htb,getD_set_ne' hib]; exact hAb
  have hout : ∀ m mt (L : List Box),Outer A ((A.set i (.mapb (esOf m))).set it (.mapb (tEs mt)) ++ L):=fun m mt L=>outer2 A L i it _ _ (es_closed _ _) (tEs_closed _ _)
  have hsetT : ∀ X Y Z (L : List Box),((A.set i X).set it Y ++ L).set it Z = (A.set i X).set it Z ++ L:=fun X Y Z L=>by rw [List.set_append_left _ _ (by simpa using hit),List.set_set]
  simp only [xF1,xF2]
  refine acalls_enter (cf:=cf 82 [0,1,2,3,4,5,6,7,8,9,10,11,12,21,34,35,36,37,69,76]) foll Tryz.func154 Tryz.ntmps154 (by simp [cf]) ?_
  simp only [Tryz.f154,EnterK_some,zW,zX,zD,builtinA,isLeaf,const1,Nat.reduceAdd,Nat.reduceMul,Nat.reduceSub,Nat.reduceLT,Nat.reduceLeDiff,Nat.reduceEqDiff,Nat.reduceBEq,Nat.reduceBNe,reduceIte,reduceCtorEq,Int.reduceToNat,Int.reduceLT,Int.reduceLE,Int.reduceEq,Int.reduceNe,Int.reduceNeg,ustrA,ti3,ti37,ti39,ti96,ti99,ti229,ti231,ti341,ti342,ca234,cf,Tryz.results154]
  simp only [zW,zX,zD,builtinA,isLeaf,const1,Nat.reduceAdd,Nat.reduceMul,Nat.reduceSub,Nat.reduceLT,Nat.reduceLeDiff,Nat.reduceEqDiff,Nat.reduceBEq,Nat.reduceBNe,reduceIte,reduceCtorEq,Int.reduceToNat,Int.reduceLT,Int.reduceLE,Int.reduceEq,Int.reduceNe,Int.reduceNeg,ustrA,ti3,ti37,ti39,ti96,ti99,ti229,ti231,ti341,ti342,ca234,cf,Tryz.results154,g2_0,g2_k,s2_0,s2_k,encI_length,encI_take,encI_drop,frzL_encI]
  refine ⟨encI_leaf a0,encI_leaf b0,?_,?_⟩
  · intro v hv
    rcases List.mem_cons.1 hv with rfl | hv
    · rfl
    · rcases List.mem_cons.1 hv with rfl | hv
      · rfl
      · cases hv
  have hmu : ∀ v (m : List (LL × LL)) (mt : List (tLL × tLL)) (B : List Box) j (W : List WI),B.getD j .dead = .row 2 (W.map (WI.row a0 b0)) 0 → muT U.length i [(3,v),(7,.own (A.length + (j + 3)))] ((A.set i (.mapb (esOf m))).set it (.mapb (tEs mt)) ++ (.cells [xF1,xF2 bt,.map i] :: .cells (encI a0) :: .cells (encI b0) :: B)) = 2 * (U.length - m.length) + W.length:=fun v m mt B j W hB=>by
    unfold muT esLen rowLen
    have e2 : ((A.set i (.mapb (esOf m))).set it (.mapb (tEs mt)) ++ (.cells [xF1,xF2 bt,.map i] :: .cells (encI a0) :: .cells (encI b0) :: B)).getD (A.length + (j + 3)) .dead = .row 2 (W.map (WI.row a0 b0)) 0:=g2_k.trans hB
    have e3 : Abs.look 7 [(3,v),(7,AV.own (A.length + (j + 3)))] = .own (A.length + (j + 3)):=rfl
    rw [hgA,e3]
    simp only []
    rw [e2]
    simp [esOf]
  have hst : (A.set i (.mapb (esOf m0))).set it (.mapb (tEs mt0)) = A:=by rw [t_set hA hi]; exact t_set hAt hit
  simp only [xF1,xF2] at hmu
  refine aloop_intro [3,7] (fun e A'=>∃ m J W B j mt,e = [(3,.ptr A.length 0),(7,.own (A.length + (j + 3)))] ∧ A' = (A.set i (.mapb (esOf m))).set it (.mapb (tEs mt)) ++ (.cells [xF1,xF2 bt,.map i] :: .cells (encI a0) :: .cells (encI b0) :: B) ∧ tClS UT mt ∧ j < B.length ∧ B.getD j .dead = .row 2 (W.map (WI.row a0 b0)) 0 ∧ 2 * (U.length - m.length) + W.length ≤ 2 * U.length + 1 ∧ SI U a0 b0 m J W none) (muT U.length i) ?_ ?_
  · simp only [zW,zX,zD,builtinA,isLeaf,const1,Nat.reduceAdd,Nat.reduceMul,Nat.reduceSub,Nat.reduceLT,Nat.reduceLeDiff,Nat.reduceEqDiff,Nat.reduceBEq,Nat.reduceBNe,reduceIte,reduceCtorEq,Int.reduceToNat,Int.reduceLT,Int.reduceLE,Int.reduceEq,Int.reduceNe,Int.reduceNeg,ustrA,ti3,ti37,ti39,ti96,ti99,ti229,ti231,ti341,ti342,ca234,cf,Tryz.results154,g2_0,g2_k,s2_0,s2_k]
    obtain ⟨J0,hc0,hb0⟩:=h0
    refine ⟨m0,J0,[.ini],[.row 9 [encI a0] 1,.row 9 [encI b0] 1,.row 2 [[.slice [encI a0],.slice [encI b0]]] 0],2,mt0,rfl,by rw [hst]; rfl,ht0,by simp,rfl,by simp; omega,⟨hc0,fun p hp=>.inl (hb0 p hp),.inr (.inl (by simp)),by simp,fun he w hw=>?_⟩⟩
    have : w = .ini:=by simpa using hw
    subst this
    simp [WI.l1,WI.l2,erases,he]
  · rintro e A' ⟨m,J,W,B,j,mt,rfl,rfl,hmt,hj,hB,hW,hS⟩
    have hw1 : W.length ≤ 1000000000:=by omega
    have hgj : ∀ X Y Z : Box,∀ d : Box,(X :: Y :: Z :: B).getD (j + 3) d = B.getD j d:=fun _ _ _ _=>rfl
    rcases List.eq_nil_or_concat W with rfl | ⟨W0,w,rfl⟩
    · have hz : decide ((0 : Int) < ((0 : Nat) : Int)) = false:=rfl
      have hS':=hS.fin
      have hcl:=hS.cls
      simp only [xF1,xF2]
      simp only [zW,zX,zD,builtinA,isLeaf,const1,Nat.reduceAdd,Nat.reduceMul,Nat.reduceSub,Nat.reduceLT,Nat.reduceLeDiff,Nat.reduceEqDiff,Nat.reduceBEq,Nat.reduceBNe,reduceIte,reduceCtorEq,Int.reduceToNat,Int.reduceLT,Int.reduceLE,Int.reduceEq,Int.reduceNe,Int.reduceNeg,ustrA,ti3,ti37,ti39,ti96,ti99,ti229,ti231,ti341,ti342,ca234,cf,Tryz.results154,g2_0,g2_k,s2_0,s2_k,hgj,hB,hz,decide_eq_true hS']
      exact ⟨hout _ _ _,m,mt,tk2,fun _=>⟨hcl,hmt⟩⟩
    · have hwl : ((W0 ++ [w]).map (WI.row a0 b0)).length = W0.length + 1:=by simp
      have hcut : ((W0 ++ [w]).map (WI.row a0 b0)).take W0.length = W0.map (WI.row a0 b0):=by simp
      have hgw : ((W0 ++ [w]).map (WI.row a0 b0)).getD W0.length [] = w.row a0 b0:=by simp [List.getD]
      have hz : decide ((0 : Int) < ((W0.length + 1 : Nat) : Int)) = true:=decide_eq_true (by omega)
      have hm1 : ((W0.length + 1 : Nat) : Int) - 1 = (W0.length : Nat):=by omega
      have hW1 : 2 * (U.length - m.length) + (W0.length + 1) ≤ 2 * U.length + 1:=by simpa using hW
      rw [List.concat_eq_append] at hB hS
      have hB2 : ∀ L : List Box,(B ++ L).getD j .dead = .row 2 ((W0 ++ [w]).map (WI.row a0 b0)) 0:=fun L=>by rw [getD_app1 _ _ _ _ hj,hB]
      have hww : IntKind.i64.wrap ((W0.length : Nat) : Int) = (W0.length : Nat):=wrap64 (by omega) (by omega)
      have hq : ∀ (X Y : Box) (L : List Box) (d : Box),((B ++ [X]).set j Y ++ L).getD B.length d = X:=fun X Y L d=>by
        have h1 : B.length < ((B ++ [X]).set j Y).length:=by simp
        have h2 : j ≠ B.length:=by omega
        rw [getD_app1 _ _ _ _ h1,Go.Abs.getD_set_ne' h2,getD_app0]
        rfl
      have hq2 : ∀ (X Y Z d : Box),((B ++ [X]).set j Y ++ [Z]).getD (B.length + 1) d = Z:=fun X Y Z d=>by
        have e : ((B ++ [X]).set j Y).length = B.length + 1:=by simp
        rw [← e,getD_app0]
        rfl
      have hmm:=hmu (.ptr A.length 0) m mt B j _ hB
      simp only [xF1,xF2] at hmm ⊢
      rw [hmm,List.length_append,List.length_singleton]
      cases w with
      | ini =>
        have hn1 : (encIs [a0]).length = 1:=encIs_length _
        simp only [zW,zX,zD,builtinA,isLeaf,const1,Nat.reduceAdd,Nat.reduceMul,Nat.reduceSub,Nat.reduceLT,Nat.reduceLeDiff,Nat.reduceEqDiff,Nat.reduceBEq,Nat.reduceBNe,reduceIte,reduceCtorEq,Int.reduceToNat,Int.reduceLT,Int.reduceLE,Int.reduceEq,Int.reduceNe,Int.reduceNeg,ustrA,ti3,ti37,ti39,ti96,ti99,ti229,ti231,ti341,ti342,ca234,cf,Tryz.results154,g2_0,g2_k,s2_0,s2_k,hgj,hB,hB2,hwl,hcut,hgw,WI.row,hz,hm1,hww,hq,hn1]
        refine ⟨⟨by omega,by omega⟩,⟨by omega,by omega⟩,?_⟩
        refine aloop_intro [3,7,8,34,35,36] (fun e A'=>∃ k m' J' W' B' j' mt',e = [(3,.ptr A.length 0),(7,.own (A.length + (j' + 3))),(8,.ptr (A.length + (B.length + 3)) 0),(34,.slice (encIs [a0])),(35,.int .i64 ((1 : Nat) : Int)),(36,.int .i64 (k : Nat))]
          ∧ A' = (A.set i (.mapb (esOf m'))).set it (.mapb (tEs mt')) ++ (.cells [xF1,xF2 bt,.map i] :: .cells (encI a0) :: .cells (encI b0) :: B') ∧ tClS UT mt' ∧ j' < B'.length ∧ B'.getD j' .dead = .row 2 (W'.map (WI.row a0 b0)) 0 ∧ B.length < B'.length ∧ B'.getD B.length .dead = .cells [.slice (encIs [a0]),.slice (encIs [b0])]
          ∧ 2 * (U.length - m'.length) + W'.length ≤ 2 * (U.length - m.length) + W0.length ∧ k ≤ 1 ∧ SI U a0 b0 m' J' W' (some .ini) ∧ ∀ q,q < k → Near (Eqv J') ([a0].getD q it0) ([b0].getD q it0)) (fun e _=>muI 1 e) ?_ ?_
        · refine ⟨0,m,J,W0,_,B.length + 1,mt,rfl,rfl,hmt,by simp,hq2 _ _ _ _,by simp only [List.length_append,List.length_set,List.length_singleton]; omega,hq _ _ _ _,Nat.le_refl _,Nat.zero_le _,hS.pop,by simp⟩
        · rintro e A' ⟨k,m',J',W',B',j',mt',rfl,rfl,hmt',hj',hB',hq',hBq,hle,hk,hS',hnear⟩
          have hgj' : ∀ X Y Z : Box,∀ (k : Nat) (d : Box),(X :: Y :: Z :: B').getD (k + 3) d = B'.getD k d:=fun _ _ _ _ _=>rfl
          have hcl:=hS'.ci.le
          have hW' : W'.length ≤ 600000000:=by omega
          have hWb : 2 * (U.length - m'.length) + W'.length ≤ 2 * U.length + 1:=by omega
          have hxy : 1 = [b0].length:=rfl
          have hB2' : ∀ L : List Box,(B' ++ L).getD j' .dead = .row 2 (W'.map (WI.row a0 b0)) 0:=fun L=>by rw [getD_app1 _ _ _ _ hj',hB']
          have hBq2 : ∀ L : List Box,(B' ++ L).getD B.length .dead = .cells [.slice (encIs [a0]),.slice (encIs [b0])]:=fun L=>by rw [getD_app1 _ _ _ _ hq',hBq]
          have hjq : j' ≠ B.length:=fun e=>by rw [e,hBq] at hB'; cases hB'
          have hq3 : ∀ (X Y Z W V R d : Box),((B' ++ [X,Y,Z,W]).set j' V ++ [R]).getD (B'.length + 4) d = R:=fun X Y Z W V R d=>by
            have e : ((B' ++ [X,Y,Z,W]).set j' V).length = B'.length + 4:=by simp
            rw [← e,getD_app0]
            rfl
          have hq4 : ∀ (X Y Z W V : Box) (L : List Box),((B' ++ [X,Y,Z,W]).set j' V ++ L).getD B.length .dead = .cells [.slice (encIs [a0]),.slice (encIs [b0])]:=fun X Y Z W V L=>by
            have h1 : B.length < ((B' ++ [X,Y,Z,W]).set j' V).length:=by simp only [List.length_append,List.length_set,List.length_cons,List.length_nil]; omega
            rw [getD_app1 _ _ _ _ h1,Go.Abs.getD_set_ne' hjq,hBq2]
          have hset : ∀ X Y Z (L : List Box),((A.set i X).set it Y ++ L).set i Z = (A.set i Z).set it Y ++ L:=fun X Y Z L=>by rw [List.set_append_left _ _ (by simpa using hi),List.set_comm _ _ (Ne.symm hii),List.set_set]
          have hNb : 1 ≤ 1000000000:=by omega
          simp only [xF1,xF2]
          by_cases hlt : k < 1
          · have hlt1 : decide (((k : Nat) : Int) < ((1 : Nat) : Int)) = true:=decide_eq_true (by have h0 : k < 1:=hlt; omega)
            have hgx : (encIs [a0]).getD k [] = encI ([a0].getD k it0):=encIs_getD hlt
            have hgy : (encIs [b0]).getD k [] = encI ([b0].getD k it0):=encIs_getD (by omega)
            have hn2 : (encIs [b0]).length = 1:=(encIs_length _).trans hxy.symm
            generalize hs : [a0].getD k it0 = s at hgx
            generalize ht : [b0].getD k it0 = t at hgy
            simp only [zW,zX,zD,builtinA,isLeaf,const1,Nat.reduceAdd,Nat.reduceMul,Nat.reduceSub,Nat.reduceLT,Nat.reduceLeDiff,Nat.reduceEqDiff,Nat.reduceBEq,Nat.reduceBNe,reduceIte,reduceCtorEq,Int.reduceToNat,Int.reduceLT,Int.reduceLE,Int.reduceEq,Int.reduceNe,Int.reduceNeg,ustrA,ti3,ti37,ti39,ti96,ti99,ti229,ti231,ti341,ti342,ca234,cf,Tryz.results154,g2_0,g2_k,s2_0,s2_k,hgj',hB',hBq,hlt1,hgx,hgy,hn1,hn2,hB2',hBq2,encI_length,encI_take,encI_drop,frzL_encI]
            refine ⟨⟨by omega,by have h0 : k < 1:=hlt; omega⟩,⟨by omega,by have h0 : k < 1:=hlt; omega⟩,?_⟩
            have hts : TU UT (argX s):=by have hk0 : k = 0:=(by omega); subst hk0; simp at hs; subst hs; exact hTa
            have htt : TU UT (argX t):=by have hk0 : k = 0:=(by omega); subst hk0; simp at ht; subst ht; exact hTb
            have hks:=fun A=>tcI_kids s A
            have hkt:=fun A=>tcI_kids t A
            refine .inr (drawE_intro [(false,0,1),(false,0,1),(false,0,1),(false,0,1),(false,0,1),(false,0,1),(false,0,1),(false,0,1),(false,0,1),(true,0,0),(true,1,1)] [(A.set i (.mapb (esOf m'))).set it (.mapb (tEs mt')) ++ (.cells [xF1,xF2 bt,.map i] :: .cells (encI a0) :: .cells (encI b0) :: (B' ++ [.cells (encI s),.cells (encI t)])),(A.set i (.mapb (esOf m'))).set it (.mapb (tEs mt')) ++ (.cells [xF1,xF2 bt,.map i] :: .cells (encI a0) :: .cells (encI b0) :: (B' ++ [.cells (encI s),.cells (encI t),.cells [.nils,.nils]])),(A.set i (.mapb (esOf m'))).set it (.mapb (tEs mt')) ++ (.cells [xF1,xF2 bt,.map i] :: .cells (encI a0) :: .cells (encI b0) :: (B' ++ [.cells (encI s),.cells (encI t),.cells [kidsV s,kidsV t]]))] 2 rfl (by kernel_rfl) (by kernel_rfl) (by kernel_rfl) (by kernel_rfl) (by kernel_rfl) (by kernel_rfl) ?_)
            simp only [xF1,xF2]
            simp only [zW,zX,zD,builtinA,isLeaf,const1,Nat.reduceAdd,Nat.reduceMul,Nat.reduceSub,Nat.reduceLT,Nat.reduceLeDiff,Nat.reduceEqDiff,Nat.reduceBEq,Nat.reduceBNe,reduceIte,reduceCtorEq,Int.reduceToNat,Int.reduceLT,Int.reduceLE,Int.reduceEq,Int.reduceNe,Int.reduceNeg,ustrA,ti3,ti37,ti39,ti96,ti99,ti229,ti231,ti341,ti342,ca234,cf,Tryz.results154,g2_0,g2_k,s2_0,s2_k,encI_take]
            refine ⟨by rw [encI_length]; omega,by rw [encI_length]; omega,?_⟩
            refine wpG_callv _ _ _ _ _ _ _ _ _ _ _ _ _ _ _ _ _ ?_
            simp only [zW,zX,zD,builtinA,isLeaf,const1,Nat.reduceAdd,Nat.reduceMul,Nat.reduceSub,Nat.reduceLT,Nat.reduceLeDiff,Nat.reduceEqDiff,Nat.reduceBEq,Nat.reduceBNe,reduceIte,reduceCtorEq,Int.reduceToNat,Int.reduceLT,Int.reduceLE,Int.reduceEq,Int.reduceNe,Int.reduceNeg,ustrA,ti3,ti37,ti39,ti96,ti99,ti229,ti231,ti341,ti342,ca234,cf,Tryz.results154,g2_0,g2_k,s2_0,s2_k,CallVE_eq,List.nil_append,List.append_nil]
            refine ⟨by kernel_rfl,callEN_intro (fun A=>by simp only [zW,zX,zD,builtinA,isLeaf,const1,Nat.reduceAdd,Nat.reduceMul,Nat.reduceSub,Nat.reduceLT,Nat.reduceLeDiff,Nat.reduceEqDiff,Nat.reduceBEq,Nat.reduceBNe,reduceIte,reduceCtorEq,Int.reduceToNat,Int.reduceLT,Int.reduceLE,Int.reduceEq,Int.reduceNe,Int.reduceNeg,ustrA,frzL_encI,Option.map_some]) hks ?_ rfl rfl⟩
            simp only [zW,zX,zD,builtinA,isLeaf,const1,Nat.reduceAdd,Nat.reduceMul,Nat.reduceSub,Nat.reduceLT,Nat.reduceLeDiff,Nat.reduceEqDiff,Nat.reduceBEq,Nat.reduceBNe,reduceIte,reduceCtorEq,Int.reduceToNat,Int.reduceLT,Int.reduceLE,Int.reduceEq,Int.reduceNe,Int.reduceNeg,ustrA,ti3,ti37,ti39,ti96,ti99,ti229,ti231,ti341,ti342,ca234,cf,Tryz.results154,g2_0,g2_k,s2_0,s2_k,encI_take]
            refine ⟨by rw [encI_length]; omega,by rw [encI_length]; omega,?_⟩
            refine wpG_callv _ _ _ _ _ _ _ _ _ _ _ _ _ _ _ _ _ ?_
            simp only [zW,zX,zD,builtinA,isLeaf,const1,Nat.reduceAdd,Nat.reduceMul,Nat.reduceSub,Nat.reduceLT,Nat.reduceLeDiff,Nat.reduceEqDiff,Nat.reduceBEq,Nat.reduceBNe,reduceIte,reduceCtorEq,Int.reduceToNat,Int.reduceLT,Int.reduceLE,Int.reduceEq,Int.reduceNe,Int.reduceNeg,ustrA,ti3,ti37,ti39,ti96,ti99,ti229,ti231,ti341,ti342,ca234,cf,Tryz.results154,g2_0,g2_k,s2_0,s2_k,CallVE_eq,List.nil_append,List.append_nil]
            refine ⟨by kernel_rfl,callEN_intro (fun A=>by simp only [zW,zX,zD,builtinA,isLeaf,const1,Nat.reduceAdd,Nat.reduceMul,Nat.reduceSub,Nat.reduceLT,Nat.reduceLeDiff,Nat.reduceEqDiff,Nat.reduceBEq,Nat.reduceBNe,reduceIte,reduceCtorEq,Int.reduceToNat,Int.reduceLT,Int.reduceLE,Int.reduceEq,Int.reduceNe,Int.reduceNeg,ustrA,frzL_encI,Option.map_some]) hkt ?_ rfl rfl⟩
            have hbx : ∀ z,below s = some z → z ∈ U:=fun z hz=>ha z (by have hk0 : k = 0:=(by omega); subst hk0; simp at hs; subst hs; exact hz)
            have hby : ∀ z,below t = some z → z ∈ U:=fun z hz=>hb z (by have hk0 : k = 0:=(by omega); subst hk0; simp at ht; subst ht; exact hz)
            have hi1 : IntKind.i64.wrap ((k : Int) + 1) = ((k + 1 : Nat) : Int):=by rw [wrap64 (by omega) (by have h0 : k < 1:=hlt; omega)]; rfl
            have hnr : ∀ J2,(∀ x y,Eqv J' x y → Eqv J2 x y) → Near (Eqv J2) s t → ∀ q,q < k + 1 → Near (Eqv J2) ([a0].getD q it0) ([b0].getD q it0):=fun J2 hj hn q hq=>by
              rcases Nat.lt_or_ge q k with h | h
              · exact (hnear q h).mono hj
              · obtain rfl : q = k:=by omega
                rw [hs,ht]; exact hn
            have hmi : 1 - (((k + 1 : Nat) : Int)).toNat < 1 - ((k : Nat) : Int).toNat:=by have h0 : k < 1:=hlt; simp only [Int.toNat_natCast]; omega
            have hne : ¬ node s = node t → ¬ erase a0 = erase b0:=fun hn he=>hn (by
              have:=erases_at (hS'.er he _ (.inr rfl)) k
              simp only [WI.l1,WI.l2] at this
              rw [hs,ht] at this
              exact erase_node this)
            have hl1 : ∀ X Y Z : Box,j' < (B' ++ [X,Y,Z]).length:=fun X Y Z=>by rw [List.length_append]; omega
            have hl2 : ∀ X Y Z : Box,B.length < (B' ++ [X,Y,Z]).length:=fun X Y Z=>by rw [List.length_append]; omega
            have hb1 : (0 : Int) ≤ (k : Nat) ∧ ((k : Nat) : Int) < ((1 : Nat) : Int):=⟨by omega,by have h0 : k < 1:=hlt; omega⟩
            rcases kids_cases s with ⟨k1,e1,n1⟩ | ⟨x',k1,e1,n1⟩ <;> rcases kids_cases t with ⟨k2,e2,n2⟩ | ⟨y',k2,e2,n2⟩
            · have d0 : decide (¬ ((0 : Nat) : Int) = ((0 : Nat) : Int)) = false:=rfl
              by_cases hlab : lab s = lab t
              · have hnode : node s = node t:=(node_iff s t).2 ⟨hlab,by unfold klen; rw [n1,n2]⟩
                simp only [zW,zX,zD,builtinA,isLeaf,const1,Nat.reduceAdd,Nat.reduceMul,Nat.reduceSub,Nat.reduceLT,Nat.reduceLeDiff,Nat.reduceEqDiff,Nat.reduceBEq,Nat.reduceBNe,reduceIte,reduceCtorEq,Int.reduceToNat,Int.reduceLT,Int.reduceLE,Int.reduceEq,Int.reduceNe,Int.reduceNeg,ustrA,ti3,ti37,ti39,ti96,ti99,ti229,ti231,ti341,ti342,ca234,cf,Tryz.results154,g2_0,g2_k,s2_0,s2_k,e1,e2,d0,encI_take]
                refine ⟨by rw [encI_length]; omega,by rw [encI_length]; omega,?_⟩
                refine wpO_callv _ _ _ _ _ _ _ _ _ _ _ _ _ _ _ ?_
                simp only [zW,zX,zD,builtinA,isLeaf,const1,Nat.reduceAdd,Nat.reduceMul,Nat.reduceSub,Nat.reduceLT,Nat.reduceLeDiff,Nat.reduceEqDiff,Nat.reduceBEq,Nat.reduceBNe,reduceIte,reduceCtorEq,Int.reduceToNat,Int.reduceLT,Int.reduceLE,Int.reduceEq,Int.reduceNe,Int.reduceNeg,ustrA,ti3,ti37,ti39,ti96,ti99,ti229,ti231,ti341,ti342,ca234,cf,Tryz.results154,g2_0,g2_k,s2_0,s2_k,List.nil_append,List.append_nil]
                refine ⟨by kernel_rfl,?_⟩
                refine callK_intro (by simp only [zW,zX,zD,builtinA,isLeaf,const1,Nat.reduceAdd,Nat.reduceMul,Nat.reduceSub,Nat.reduceLT,Nat.reduceLeDiff,Nat.reduceEqDiff,Nat.reduceBEq,Nat.reduceBNe,reduceIte,reduceCtorEq,Int.reduceToNat,Int.reduceLT,Int.reduceLE,Int.reduceEq,Int.reduceNe,Int.reduceNeg,ustrA,frzL_encI,Option.map_some,List.cons_append,List.nil_append] <;> rfl) (tcI_same hUT s t hts htt bt it mt' hmt' _ (by simp; omega) (by simp; omega) (hgB _ _ _) (hgT _ _ _)) ?_ rfl
                rintro r A2 ⟨mt2,rfl,rfl,hmt2⟩
                rw [hsetT]
                simp only [zW,zX,zD,builtinA,isLeaf,const1,Nat.reduceAdd,Nat.reduceMul,Nat.reduceSub,Nat.reduceLT,Nat.reduceLeDiff,Nat.reduceEqDiff,Nat.reduceBEq,Nat.reduceBNe,reduceIte,reduceCtorEq,Int.reduceToNat,Int.reduceLT,Int.reduceLE,Int.reduceEq,Int.reduceNe,Int.reduceNeg,ustrA,ti3,ti37,ti39,ti96,ti99,ti229,ti231,ti341,ti342,ca234,cf,Tryz.results154,g2_0,g2_k,s2_0,s2_k,decide_eq_true hlab]
                refine callK_intro (by simp only [zW,zX,zD,builtinA,isLeaf,const1,Nat.reduceAdd,Nat.reduceMul,Nat.reduceSub,Nat.reduceLT,Nat.reduceLeDiff,Nat.reduceEqDiff,Nat.reduceBEq,Nat.reduceBNe,reduceIte,reduceCtorEq,Int.reduceToNat,Int.reduceLT,Int.reduceLE,Int.reduceEq,Int.reduceNe,Int.reduceNeg,ustrA,Option.map_some] <;> rfl) (impl_join0 _ _) ?_ rfl
                rintro r A2 ⟨rfl,rfl⟩
                simp only [zW,zX,zD,builtinA,isLeaf,const1,Nat.reduceAdd,Nat.reduceMul,Nat.reduceSub,Nat.reduceLT,Nat.reduceLeDiff,Nat.reduceEqDiff,Nat.reduceBEq,Nat.reduceBNe,reduceIte,reduceCtorEq,Int.reduceToNat,Int.reduceLT,Int.reduceLE,Int.reduceEq,Int.reduceNe,Int.reduceNeg,ustrA,ti3,ti37,ti39,ti96,ti99,ti229,ti231,ti341,ti342,ca234,cf,Tryz.results154,g2_0,g2_k,s2_0,s2_k,hi1,LoopK_eq]
                exact ⟨⟨k + 1,m',J',W',_,j',mt2,rfl,rfl,hmt2 hlab,hl1 _ _ _,hB2' _,hl2 _ _ _,hBq2 _,hle,hlt,hS',hnr J' (fun _ _ h=>h) ⟨hnode,.inl ⟨k1,k2⟩⟩⟩,hmi⟩
              · have hne':=hne (fun h=>hlab ((node_iff s t).1 h).1)
                simp only [zW,zX,zD,builtinA,isLeaf,const1,Nat.reduceAdd,Nat.reduceMul,Nat.reduceSub,Nat.reduceLT,Nat.reduceLeDiff,Nat.reduceEqDiff,Nat.reduceBEq,Nat.reduceBNe,reduceIte,reduceCtorEq,Int.reduceToNat,Int.reduceLT,Int.reduceLE,Int.reduceEq,Int.reduceNe,Int.reduceNeg,ustrA,ti3,ti37,ti39,ti96,ti99,ti229,ti231,ti341,ti342,ca234,cf,Tryz.results154,g2_0,g2_k,s2_0,s2_k,e1,e2,d0,encI_take]
                refine ⟨by rw [encI_length]; omega,by rw [encI_length]; omega,?_⟩
                refine wpO_callv _ _ _ _ _ _ _ _ _ _ _ _ _ _ _ ?_
                simp only [zW,zX,zD,builtinA,isLeaf,const1,Nat.reduceAdd,Nat.reduceMul,Nat.reduceSub,Nat.reduceLT,Nat.reduceLeDiff,Nat.reduceEqDiff,Nat.reduceBEq,Nat.reduceBNe,reduceIte,reduceCtorEq,Int.reduceToNat,Int.reduceLT,Int.reduceLE,Int.reduceEq,Int.reduceNe,Int.reduceNeg,ustrA,ti3,ti37,ti39,ti96,ti99,ti229,ti231,ti341,ti342,ca234,cf,Tryz.results154,g2_0,g2_k,s2_0,s2_k,List.nil_append,List.append_nil]
                refine ⟨by kernel_rfl,?_⟩
                refine callK_intro (by simp only [zW,zX,zD,builtinA,isLeaf,const1,Nat.reduceAdd,Nat.reduceMul,Nat.reduceSub,Nat.reduceLT,Nat.reduceLeDiff,Nat.reduceEqDiff,Nat.reduceBEq,Nat.reduceBNe,reduceIte,reduceCtorEq,Int.reduceToNat,Int.reduceLT,Int.reduceLE,Int.reduceEq,Int.reduceNe,Int.reduceNeg,ustrA,frzL_encI,Option.map_some,List.cons_append,List.nil_append] <;> rfl) (tcI_same hUT s t hts htt bt it mt' hmt' _ (by simp; omega) (by simp; omega) (hgB _ _ _) (hgT _ _ _)) ?_ rfl
                rintro r A2 ⟨mt2,rfl,rfl,hmt2⟩
                rw [hsetT]
                simp only [zW,zX,zD,builtinA,isLeaf,const1,Nat.reduceAdd,Nat.reduceMul,Nat.reduceSub,Nat.reduceLT,Nat.reduceLeDiff,Nat.reduceEqDiff,Nat.reduceBEq,Nat.reduceBNe,reduceIte,reduceCtorEq,Int.reduceToNat,Int.reduceLT,Int.reduceLE,Int.reduceEq,Int.reduceNe,Int.reduceNeg,ustrA,ti3,ti37,ti39,ti96,ti99,ti229,ti231,ti341,ti342,ca234,cf,Tryz.results154,g2_0,g2_k,s2_0,s2_k,decide_eq_false hlab,decide_eq_false hne']
                exact ⟨hout _ _ _,m',_,tk2,fun h=>absurd h hne'⟩
            · have hyp : 0 < y'.ks.length:=by simp [LL.ks]
              have d0 : decide (((0 : Nat) : Int) = ((y'.ks.length : Nat) : Int)) = false:=decide_eq_false (by omega)
              have hne':=hne (fun h=>by have:=((node_iff s t).1 h).2; unfold klen at this; rw [n1,n2] at this; omega)
              simp only [zW,zX,zD,builtinA,isLeaf,const1,Nat.reduceAdd,Nat.reduceMul,Nat.reduceSub,Nat.reduceLT,Nat.reduceLeDiff,Nat.reduceEqDiff,Nat.reduceBEq,Nat.reduceBNe,reduceIte,reduceCtorEq,Int.reduceToNat,Int.reduceLT,Int.reduceLE,Int.reduceEq,Int.reduceNe,Int.reduceNeg,ustrA,ti3,ti37,ti39,ti96,ti99,ti229,ti231,ti341,ti342,ca234,cf,Tryz.results154,g2_0,g2_k,s2_0,s2_k,e1,e2,d0,encIs_length,encI_take,decide_eq_false hne']
              exact ⟨hout _ _ _,m',_,tk2,fun h=>absurd h hne'⟩
            · have hxp : 0 < x'.ks.length:=by simp [LL.ks]
              have d0 : decide (((x'.ks.length : Nat) : Int) = ((0 : Nat) : Int)) = false:=decide_eq_false (by omega)
              have hne':=hne (fun h=>by have:=((node_iff s t).1 h).2; unfold klen at this; rw [n1,n2] at this; omega)
              simp only [zW,zX,zD,builtinA,isLeaf,const1,Nat.reduceAdd,Nat.reduceMul,Nat.reduceSub,Nat.reduceLT,Nat.reduceLeDiff,Nat.reduceEqDiff,Nat.reduceBEq,Nat.reduceBNe,reduceIte,reduceCtorEq,Int.reduceToNat,Int.reduceLT,Int.reduceLE,Int.reduceEq,Int.reduceNe,Int.reduceNeg,ustrA,ti3,ti37,ti39,ti96,ti99,ti229,ti231,ti341,ti342,ca234,cf,Tryz.results154,g2_0,g2_k,s2_0,s2_k,e1,e2,d0,encIs_length,encI_take,decide_eq_false hne']
              exact ⟨hout _ _ _,m',_,tk2,fun h=>absurd h hne'⟩
            · by_cases hll : x'.ks.length = y'.ks.length
              · have d0 : decide (((x'.ks.length : Nat) : Int) = ((y'.ks.length : Nat) : Int)) = true:=decide_eq_true (by omega)
                by_cases hlab : lab s = lab t
                · have hnode : node s = node t:=(node_iff s t).2 ⟨hlab,by unfold klen; rw [n1,n2,hll]⟩
                  simp only [zW,zX,zD,builtinA,isLeaf,const1,Nat.reduceAdd,Nat.reduceMul,Nat.reduceSub,Nat.reduceLT,Nat.reduceLeDiff,Nat.reduceEqDiff,Nat.reduceBEq,Nat.reduceBNe,reduceIte,reduceCtorEq,Int.reduceToNat,Int.reduceLT,Int.reduceLE,Int.reduceEq,Int.reduceNe,Int.reduceNeg,ustrA,ti3,ti37,ti39,ti96,ti99,ti229,ti231,ti341,ti342,ca234,cf,Tryz.results154,g2_0,g2_k,s2_0,s2_k,e1,e2,d0,encIs_length,encI_take]
                  refine ⟨by rw [encI_length]; omega,by rw [encI_length]; omega,?_⟩
                  refine wpO_callv _ _ _ _ _ _ _ _ _ _ _ _ _ _ _ ?_
                  simp only [zW,zX,zD,builtinA,isLeaf,const1,Nat.reduceAdd,Nat.reduceMul,Nat.reduceSub,Nat.reduceLT,Nat.reduceLeDiff,Nat.reduceEqDiff,Nat.reduceBEq,Nat.reduceBNe,reduceIte,reduceCtorEq,Int.reduceToNat,Int.reduceLT,Int.reduceLE,Int.reduceEq,Int.reduceNe,Int.reduceNeg,ustrA,ti3,ti37,ti39,ti96,ti99,ti229,ti231,ti341,ti342,ca234,cf,Tryz.results154,g2_0,g2_k,s2_0,s2_k,List.nil_append,List.append_nil]
                  refine ⟨by kernel_rfl,?_⟩
                  refine callK_intro (by simp only [zW,zX,zD,builtinA,isLeaf,const1,Nat.reduceAdd,Nat.reduceMul,Nat.reduceSub,Nat.reduceLT,Nat.reduceLeDiff,Nat.reduceEqDiff,Nat.reduceBEq,Nat.reduceBNe,reduceIte,reduceCtorEq,Int.reduceToNat,Int.reduceLT,Int.reduceLE,Int.reduceEq,Int.reduceNe,Int.reduceNeg,ustrA,frzL_encI,Option.map_some,List.cons_append,List.nil_append] <;> rfl) (tcI_same hUT s t hts htt bt it mt' hmt' _ (by simp; omega) (by simp; omega) (hgB _ _ _) (hgT _ _ _)) ?_ rfl
                  rintro r A2 ⟨mt2,rfl,rfl,hmt2⟩
                  rw [hsetT]
                  simp only [zW,zX,zD,builtinA,isLeaf,const1,Nat.reduceAdd,Nat.reduceMul,Nat.reduceSub,Nat.reduceLT,Nat.reduceLeDiff,Nat.reduceEqDiff,Nat.reduceBEq,Nat.reduceBNe,reduceIte,reduceCtorEq,Int.reduceToNat,Int.reduceLT,Int.reduceLE,Int.reduceEq,Int.reduceNe,Int.reduceNeg,ustrA,ti3,ti37,ti39,ti96,ti99,ti229,ti231,ti341,ti342,ca234,cf,Tryz.results154,g2_0,g2_k,s2_0,s2_k,decide_eq_true hlab]
                  refine callK_intro (by simp only [zW,zX,zD,builtinA,isLeaf,const1,Nat.reduceAdd,Nat.reduceMul,Nat.reduceSub,Nat.reduceLT,Nat.reduceLeDiff,Nat.reduceEqDiff,Nat.reduceBEq,Nat.reduceBNe,reduceIte,reduceCtorEq,Int.reduceToNat,Int.reduceLT,Int.reduceLE,Int.reduceEq,Int.reduceNe,Int.reduceNeg,ustrA] <;> rfl) (impl_join hU (fun x=>.refl x) (fun _ _ _ h k=>.trans h k) (fun _ _ h=>.symm h) m' hS'.ci x' y' (hbx x' k1) (hby y' k2) i _ (by simp; omega) (hgA _ _ _)) ?_ rfl
                  rintro v A3 ⟨m2,rfl,⟨rfl,hr,hc2,hm2⟩ | ⟨rfl,hm2,hc2⟩⟩
                  · simp only [zW,zX,zD,builtinA,isLeaf,const1,Nat.reduceAdd,Nat.reduceMul,Nat.reduceSub,Nat.reduceLT,Nat.reduceLeDiff,Nat.reduceEqDiff,Nat.reduceBEq,Nat.reduceBNe,reduceIte,reduceCtorEq,Int.reduceToNat,Int.reduceLT,Int.reduceLE,Int.reduceEq,Int.reduceNe,Int.reduceNeg,ustrA,ti3,ti37,ti39,ti96,ti99,ti229,ti231,ti341,ti342,ca234,cf,Tryz.results154,g2_0,g2_k,s2_0,s2_k,hset,hi1,LoopK_eq]
                    exact ⟨⟨k + 1,m2,J',W',_,j',mt2,rfl,rfl,hmt2 hlab,hl1 _ _ _,hB2' _,hl2 _ _ _,hBq2 _,by rw [hm2]; exact hle,hlt,hS'.same hc2,hnr J' (fun _ _ h=>h) ⟨hnode,.inr ⟨x',y',k1,k2,hr⟩⟩⟩,hmi⟩
                  · have hSm:=hS'.more (hbx x' k1) (hby y' k2) hll (hc2 (Eqv ((x',y') :: J')) (eqv_more _) (fun _ _ h=>.symm h) (fun _ _ _ h k=>.trans h k) (.base (by simp))) (fun he=>by
                      have:=erases_at (hS'.er he _ (.inr rfl)) k
                      simp only [WI.l1,WI.l2] at this
                      rw [hs,ht] at this
                      exact erase_kids this k1 k2)
                    have hsl:=hSm.ci.le
                    have hrow : W'.map (WI.row a0 b0) ++ [[.islice x'.b x'.off (encIs x'.ks),.islice y'.b y'.off (encIs y'.ks)]] = (W' ++ [WI.pr x' y']).map (WI.row a0 b0):=by simp [WI.row]
                    have hleaf : ∀ v ∈ [AV.islice x'.b x'.off (encIs x'.ks),.islice y'.b y'.off (encIs y'.ks)],isLeaf v = true:=by simp [isLeaf]
                    simp only [zW,zX,zD,builtinA,isLeaf,const1,Nat.reduceAdd,Nat.reduceMul,Nat.reduceSub,Nat.reduceLT,Nat.reduceLeDiff,Nat.reduceEqDiff,Nat.reduceBEq,Nat.reduceBNe,reduceIte,reduceCtorEq,Int.reduceToNat,Int.reduceLT,Int.reduceLE,Int.reduceEq,Int.reduceNe,Int.reduceNeg,ustrA,ti3,ti37,ti39,ti96,ti99,ti229,ti231,ti341,ti342,ca234,cf,Tryz.results154,g2_0,g2_k,s2_0,s2_k,hset,hgj',hB2',hrow,hi1,LoopK_eq]
                    refine ⟨fun v hv=>hleaf v hv,⟨by simp,by rw [List.length_map]; omega⟩,⟨k + 1,m2,(x',y') :: J',W' ++ [.pr x' y'],_,B'.length + 4,mt2,rfl,rfl,hmt2 hlab,?_,hq3 _ _ _ _ _ _ _,?_,hq4 _ _ _ _ _ _,?_,hlt,hSm,hnr _ (eqv_more _) ⟨hnode,.inr ⟨x',y',k1,k2,.base (by simp)⟩⟩⟩,hmi⟩
                    · simp only [List.length_append,List.length_set,List.length_cons,List.length_nil]; omega
                    · simp only [List.length_append,List.length_set,List.length_cons,List.length_nil]; omega
                    · rw [List.length_append,List.length_singleton]; omega
                · have hne':=hne (fun h=>hlab ((node_iff s t).1 h).1)
                  simp only [zW,zX,zD,builtinA,isLeaf,const1,Nat.reduceAdd,Nat.reduceMul,Nat.reduceSub,Nat.reduceLT,Nat.reduceLeDiff,Nat.reduceEqDiff,Nat.reduceBEq,Nat.reduceBNe,reduceIte,reduceCtorEq,Int.reduceToNat,Int.reduceLT,Int.reduceLE,Int.reduceEq,Int.reduceNe,Int.reduceNeg,ustrA,ti3,ti37,ti39,ti96,ti99,ti229,ti231,ti341,ti342,ca234,cf,Tryz.results154,g2_0,g2_k,s2_0,s2_k,e1,e2,d0,encIs_length,encI_take]
                  refine ⟨by rw [encI_length]; omega,by rw [encI_length]; omega,?_⟩
                  refine wpO_callv _ _ _ _ _ _ _ _ _ _ _ _ _ _ _ ?_
                  simp only [zW,zX,zD,builtinA,isLeaf,const1,Nat.reduceAdd,Nat.reduceMul,Nat.reduceSub,Nat.reduceLT,Nat.reduceLeDiff,Nat.reduceEqDiff,Nat.reduceBEq,Nat.reduceBNe,reduceIte,reduceCtorEq,Int.reduceToNat,Int.reduceLT,Int.reduceLE,Int.reduceEq,Int.reduceNe,Int.reduceNeg,ustrA,ti3,ti37,ti39,ti96,ti99,ti229,ti231,ti341,ti342,ca234,cf,Tryz.results154,g2_0,g2_k,s2_0,s2_k,List.nil_append,List.append_nil]
                  refine ⟨by kernel_rfl,?_⟩
                  refine callK_intro (by simp only [zW,zX,zD,builtinA,isLeaf,const1,Nat.reduceAdd,Nat.reduceMul,Nat.reduceSub,Nat.reduceLT,Nat.reduceLeDiff,Nat.reduceEqDiff,Nat.reduceBEq,Nat.reduceBNe,reduceIte,reduceCtorEq,Int.reduceToNat,Int.reduceLT,Int.reduceLE,Int.reduceEq,Int.reduceNe,Int.reduceNeg,ustrA,frzL_encI,Option.map_some,List.cons_append,List.nil_append] <;> rfl) (tcI_same hUT s t hts htt bt it mt' hmt' _ (by simp; omega) (by simp; omega) (hgB _ _ _) (hgT _ _ _)) ?_ rfl
                  rintro r A2 ⟨mt2,rfl,rfl,hmt2⟩
                  rw [hsetT]
                  simp only [zW,zX,zD,builtinA,isLeaf,const1,Nat.reduceAdd,Nat.reduceMul,Nat.reduceSub,Nat.reduceLT,Nat.reduceLeDiff,Nat.reduceEqDiff,Nat.reduceBEq,Nat.reduceBNe,reduceIte,reduceCtorEq,Int.reduceToNat,Int.reduceLT,Int.reduceLE,Int.reduceEq,Int.reduceNe,Int.reduceNeg,ustrA,ti3,ti37,ti39,ti96,ti99,ti229,ti231,ti341,ti342,ca234,cf,Tryz.results154,g2_0,g2_k,s2_0,s2_k,decide_eq_false hlab,decide_eq_false hne']
                  exact ⟨hout _ _ _,m',_,tk2,fun h=>absurd h hne'⟩
              · have d0 : decide (((x'.ks.length : Nat) : Int) = ((y'.ks.length : Nat) : Int)) = false:=decide_eq_false (by omega)
                have hne':=hne (fun h=>by have:=((node_iff s t).1 h).2; unfold klen at this; rw [n1,n2] at this; omega)
                simp only [zW,zX,zD,builtinA,isLeaf,const1,Nat.reduceAdd,Nat.reduceMul,Nat.reduceSub,Nat.reduceLT,Nat.reduceLeDiff,Nat.reduceEqDiff,Nat.reduceBEq,Nat.reduceBNe,reduceIte,reduceCtorEq,Int.reduceToNat,Int.reduceLT,Int.reduceLE,Int.reduceEq,Int.reduceNe,Int.reduceNeg,ustrA,ti3,ti37,ti39,ti96,ti99,ti229,ti231,ti341,ti342,ca234,cf,Tryz.results154,g2_0,g2_k,s2_0,s2_k,e1,e2,d0,encIs_length,encI_take,decide_eq_false hne']
                exact ⟨hout _ _ _,m',_,tk2,fun h=>absurd h hne'⟩
          · have hlt1 : decide (((k : Nat) : Int) < ((1 : Nat) : Int)) = false:=decide_eq_false (by have h0 : ¬ k < 1:=hlt; omega)
            have hmu2:=hmu (.ptr A.length 0) m' mt' B' j' W' hB'
            simp only [zW,zX,zD,builtinA,isLeaf,const1,Nat.reduceAdd,Nat.reduceMul,Nat.reduceSub,Nat.reduceLT,Nat.reduceLeDiff,Nat.reduceEqDiff,Nat.reduceBEq,Nat.reduceBNe,reduceIte,reduceCtorEq,Int.reduceToNat,Int.reduceLT,Int.reduceLE,Int.reduceEq,Int.reduceNe,Int.reduceNeg,ustrA,ti3,ti37,ti39,ti96,ti99,ti229,ti231,ti341,ti342,ca234,cf,Tryz.results154,g2_0,g2_k,s2_0,s2_k,hgj',hB',hBq,hlt1,LoopK_eq]
            have hdn:=hS'.done hxy (fun q hq=>hnear q (by
              have hq' : q < 1:=hq
              have h0 : ¬ k < 1:=hlt
              omega))
            refine ⟨⟨m',J',W',B',j',mt',rfl,rfl,hmt',hj',hB',hWb,hdn⟩,?_⟩
            rw [hmu2]
            omega
      | pr x y =>
        have hn1 : (encIs x.ks).length = x.ks.length:=encIs_length _
        simp only [zW,zX,zD,builtinA,isLeaf,const1,Nat.reduceAdd,Nat.reduceMul,Nat.reduceSub,Nat.reduceLT,Nat.reduceLeDiff,Nat.reduceEqDiff,Nat.reduceBEq,Nat.reduceBNe,reduceIte,reduceCtorEq,Int.reduceToNat,Int.reduceLT,Int.reduceLE,Int.reduceEq,Int.reduceNe,Int.reduceNeg,ustrA,ti3,ti37,ti39,ti96,ti99,ti229,ti231,ti341,ti342,ca234,cf,Tryz.results154,g2_0,g2_k,s2_0,s2_k,hgj,hB,hB2,hwl,hcut,hgw,WI.row,hz,hm1,hww,hq,hn1]
        refine ⟨⟨by omega,by omega⟩,⟨by omega,by omega⟩,?_⟩
        refine aloop_intro [3,7,8,34,35,36] (fun e A'=>∃ k m' J' W' B' j' mt',e = [(3,.ptr A.length 0),(7,.own (A.length + (j' + 3))),(8,.ptr (A.length + (B.length + 3)) 0),(34,.islice x.b x.off (encIs x.ks)),(35,.int .i64 ((x.ks.length : Nat) : Int)),(36,.int .i64 (k : Nat))]
          ∧ A' = (A.set i (.mapb (esOf m'))).set it (.mapb (tEs mt')) ++ (.cells [xF1,xF2 bt,.map i] :: .cells (encI a0) :: .cells (encI b0) :: B') ∧ tClS UT mt' ∧ j' < B'.length ∧ B'.getD j' .dead = .row 2 (W'.map (WI.row a0 b0)) 0 ∧ B.length < B'.length ∧ B'.getD B.length .dead = .cells [.islice x.b x.off (encIs x.ks),.islice y.b y.off (encIs y.ks)]
          ∧ 2 * (U.length - m'.length) + W'.length ≤ 2 * (U.length - m.length) + W0.length ∧ k ≤ x.ks.length ∧ SI U a0 b0 m' J' W' (some (.pr x y)) ∧ ∀ q,q < k → Near (Eqv J') (x.ks.getD q it0) (y.ks.getD q it0)) (fun e _=>muI x.ks.length e) ?_ ?_
        · refine ⟨0,m,J,W0,_,B.length + 1,mt,rfl,rfl,hmt,by simp,hq2 _ _ _ _,by simp only [List.length_append,List.length_set,List.length_singleton]; omega,hq _ _ _ _,Nat.le_refl _,Nat.zero_le _,hS.pop,by simp⟩
        · rintro e A' ⟨k,m',J',W',B',j',mt',rfl,rfl,hmt',hj',hB',hq',hBq,hle,hk,hS',hnear⟩
          have hgj' : ∀ X Y Z : Box,∀ (k : Nat) (d : Box),(X :: Y :: Z :: B').getD (k + 3) d = B'.getD k d:=fun _ _ _ _ _=>rfl
          have hcl:=hS'.ci.le
          have hW' : W'.length ≤ 600000000:=by omega
          have hWb : 2 * (U.length - m'.length) + W'.length ≤ 2 * U.length + 1:=by omega
          have hxy : x.ks.length = y.ks.length:=(hS'.ws x y (.inr rfl)).2.2
          have hB2' : ∀ L : List Box,(B' ++ L).getD j' .dead = .row 2 (W'.map (WI.row a0 b0)) 0:=fun L=>by rw [getD_app1 _ _ _ _ hj',hB']
          have hBq2 : ∀ L : List Box,(B' ++ L).getD B.length .dead = .cells [.islice x.b x.off (encIs x.ks),.islice y.b y.off (encIs y.ks)]:=fun L=>by rw [getD_app1 _ _ _ _ hq',hBq]
          have hjq : j' ≠ B.length:=fun e=>by rw [e,hBq] at hB'; cases hB'
          have hq3 : ∀ (X Y Z W V R d : Box),((B' ++ [X,Y,Z,W]).set j' V ++ [R]).getD (B'.length + 4) d = R:=fun X Y Z W V R d=>by
            have e : ((B' ++ [X,Y,Z,W]).set j' V).length = B'.length + 4:=by simp
            rw [← e,getD_app0]
            rfl
          have hq4 : ∀ (X Y Z W V : Box) (L : List Box),((B' ++ [X,Y,Z,W]).set j' V ++ L).getD B.length .dead = .cells [.islice x.b x.off (encIs x.ks),.islice y.b y.off (encIs y.ks)]:=fun X Y Z W V L=>by
            have h1 : B.length < ((B' ++ [X,Y,Z,W]).set j' V).length:=by simp only [List.length_append,List.length_set,List.length_cons,List.length_nil]; omega
            rw [getD_app1 _ _ _ _ h1,Go.Abs.getD_set_ne' hjq,hBq2]
          have hset : ∀ X Y Z (L : List Box),((A.set i X).set it Y ++ L).set i Z = (A.set i Z).set it Y ++ L:=fun X Y Z L=>by rw [List.set_append_left _ _ (by simpa using hi),List.set_comm _ _ (Ne.symm hii),List.set_set]
          have hNb : x.ks.length ≤ 1000000000:=hL x (hS'.ws x y (.inr rfl)).1
          simp only [xF1,xF2]
          by_cases hlt : k < x.ks.length
          · have hlt1 : decide (((k : Nat) : Int) < ((x.ks.length : Nat) : Int)) = true:=decide_eq_true (by have h0 : k < x.ks.length:=hlt; omega)
            have hgx : (encIs x.ks).getD k [] = encI (x.ks.getD k it0):=encIs_getD hlt
            have hgy : (encIs y.ks).getD k [] = encI (y.ks.getD k it0):=encIs_getD (by omega)
            have hn2 : (encIs y.ks).length = x.ks.length:=(encIs_length _).trans hxy.symm
            generalize hs : x.ks.getD k it0 = s at hgx
            generalize ht : y.ks.getD k it0 = t at hgy
            simp only [zW,zX,zD,builtinA,isLeaf,const1,Nat.reduceAdd,Nat.reduceMul,Nat.reduceSub,Nat.reduceLT,Nat.reduceLeDiff,Nat.reduceEqDiff,Nat.reduceBEq,Nat.reduceBNe,reduceIte,reduceCtorEq,Int.reduceToNat,Int.reduceLT,Int.reduceLE,Int.reduceEq,Int.reduceNe,Int.reduceNeg,ustrA,ti3,ti37,ti39,ti96,ti99,ti229,ti231,ti341,ti342,ca234,cf,Tryz.results154,g2_0,g2_k,s2_0,s2_k,hgj',hB',hBq,hlt1,hgx,hgy,hn1,hn2,hB2',hBq2,encI_length,encI_take,encI_drop,frzL_encI]
            refine ⟨⟨by omega,by have h0 : k < x.ks.length:=hlt; omega⟩,⟨by omega,by have h0 : k < x.ks.length:=hlt; omega⟩,?_⟩
            have hts : TU UT (argX s):=hTU x (hS'.ws x y (.inr rfl)).1 s (hs ▸ Go.Abs.getD_mem hlt)
            have htt : TU UT (argX t):=hTU y (hS'.ws x y (.inr rfl)).2.1 t (ht ▸ Go.Abs.getD_mem (by omega))
            have hks:=fun A=>tcI_kids s A
            have hkt:=fun A=>tcI_kids t A
            refine .inr (drawE_intro [(false,0,1),(false,0,1),(false,0,1),(false,0,1),(false,0,1),(false,0,1),(false,0,1),(false,0,1),(false,0,1),(true,0,0),(true,1,1)] [(A.set i (.mapb (esOf m'))).set it (.mapb (tEs mt')) ++ (.cells [xF1,xF2 bt,.map i] :: .cells (encI a0) :: .cells (encI b0) :: (B' ++ [.cells (encI s),.cells (encI t)])),(A.set i (.mapb (esOf m'))).set it (.mapb (tEs mt')) ++ (.cells [xF1,xF2 bt,.map i] :: .cells (encI a0) :: .cells (encI b0) :: (B' ++ [.cells (encI s),.cells (encI t),.cells [.nils,.nils]])),(A.set i (.mapb (esOf m'))).set it (.mapb (tEs mt')) ++ (.cells [xF1,xF2 bt,.map i] :: .cells (encI a0) :: .cells (encI b0) :: (B' ++ [.cells (encI s),.cells (encI t),.cells [kidsV s,kidsV t]]))] 2 rfl (by kernel_rfl) (by kernel_rfl) (by kernel_rfl) (by kernel_rfl) (by kernel_rfl) (by kernel_rfl) ?_)
            simp only [xF1,xF2]
            simp only [zW,zX,zD,builtinA,isLeaf,const1,Nat.reduceAdd,Nat.reduceMul,Nat.reduceSub,Nat.reduceLT,Nat.reduceLeDiff,Nat.reduceEqDiff,Nat.reduceBEq,Nat.reduceBNe,reduceIte,reduceCtorEq,Int.reduceToNat,Int.reduceLT,Int.reduceLE,Int.reduceEq,Int.reduceNe,Int.reduceNeg,ustrA,ti3,ti37,ti39,ti96,ti99,ti229,ti231,ti341,ti342,ca234,cf,Tryz.results154,g2_0,g2_k,s2_0,s2_k,encI_take]
            refine ⟨by rw [encI_length]; omega,by rw [encI_length]; omega,?_⟩
            refine wpG_callv _ _ _ _ _ _ _ _ _ _ _ _ _ _ _ _ _ ?_
            simp only [zW,zX,zD,builtinA,isLeaf,const1,Nat.reduceAdd,Nat.reduceMul,Nat.reduceSub,Nat.reduceLT,Nat.reduceLeDiff,Nat.reduceEqDiff,Nat.reduceBEq,Nat.reduceBNe,reduceIte,reduceCtorEq,Int.reduceToNat,Int.reduceLT,Int.reduceLE,Int.reduceEq,Int.reduceNe,Int.reduceNeg,ustrA,ti3,ti37,ti39,ti96,ti99,ti229,ti231,ti341,ti342,ca234,cf,Tryz.results154,g2_0,g2_k,s2_0,s2_k,CallVE_eq,List.nil_append,List.append_nil]
            refine ⟨by kernel_rfl,callEN_intro (fun A=>by simp only [zW,zX,zD,builtinA,isLeaf,const1,Nat.reduceAdd,Nat.reduceMul,Nat.reduceSub,Nat.reduceLT,Nat.reduceLeDiff,Nat.reduceEqDiff,Nat.reduceBEq,Nat.reduceBNe,reduceIte,reduceCtorEq,Int.reduceToNat,Int.reduceLT,Int.reduceLE,Int.reduceEq,Int.reduceNe,Int.reduceNeg,ustrA,frzL_encI,Option.map_some]) hks ?_ rfl rfl⟩
            simp only [zW,zX,zD,builtinA,isLeaf,const1,Nat.reduceAdd,Nat.reduceMul,Nat.reduceSub,Nat.reduceLT,Nat.reduceLeDiff,Nat.reduceEqDiff,Nat.reduceBEq,Nat.reduceBNe,reduceIte,reduceCtorEq,Int.reduceToNat,Int.reduceLT,Int.reduceLE,Int.reduceEq,Int.reduceNe,Int.reduceNeg,ustrA,ti3,ti37,ti39,ti96,ti99,ti229,ti231,ti341,ti342,ca234,cf,Tryz.results154,g2_0,g2_k,s2_0,s2_k,encI_take]
            refine ⟨by rw [encI_length]; omega,by rw [encI_length]; omega,?_⟩
            refine wpG_callv _ _ _ _ _ _ _ _ _ _ _ _ _ _ _ _ _ ?_
            simp only [zW,zX,zD,builtinA,isLeaf,const1,Nat.reduceAdd,Nat.reduceMul,Nat.reduceSub,Nat.reduceLT,Nat.reduceLeDiff,Nat.reduceEqDiff,Nat.reduceBEq,Nat.reduceBNe,reduceIte,reduceCtorEq,Int.reduceToNat,Int.reduceLT,Int.reduceLE,Int.reduceEq,Int.reduceNe,Int.reduceNeg,ustrA,ti3,ti37,ti39,ti96,ti99,ti229,ti231,ti341,ti342,ca234,cf,Tryz.results154,g2_0,g2_k,s2_0,s2_k,CallVE_eq,List.nil_append,List.append_nil]
            refine ⟨by kernel_rfl,callEN_intro (fun A=>by simp only [zW,zX,zD,builtinA,isLeaf,const1,Nat.reduceAdd,Nat.reduceMul,Nat.reduceSub,Nat.reduceLT,Nat.reduceLeDiff,Nat.reduceEqDiff,Nat.reduceBEq,Nat.reduceBNe,reduceIte,reduceCtorEq,Int.reduceToNat,Int.reduceLT,Int.reduceLE,Int.reduceEq,Int.reduceNe,Int.reduceNeg,ustrA,frzL_encI,Option.map_some]) hkt ?_ rfl rfl⟩
            have hbx : ∀ z,below s = some z → z ∈ U:=fun z hz=>hU.down x (hS'.ws x y (.inr rfl)).1 s (hs ▸ Go.Abs.getD_mem hlt) z hz
            have hby : ∀ z,below t = some z → z ∈ U:=fun z hz=>hU.down y (hS'.ws x y (.inr rfl)).2.1 t (ht ▸ Go.Abs.getD_mem (by omega)) z hz
            have hi1 : IntKind.i64.wrap ((k : Int) + 1) = ((k + 1 : Nat) : Int):=by rw [wrap64 (by omega) (by have h0 : k < x.ks.length:=hlt; omega)]; rfl
            have hnr : ∀ J2,(∀ x y,Eqv J' x y → Eqv J2 x y) → Near (Eqv J2) s t → ∀ q,q < k + 1 → Near (Eqv J2) (x.ks.getD q it0) (y.ks.getD q it0):=fun J2 hj hn q hq=>by
              rcases Nat.lt_or_ge q k with h | h
              · exact (hnear q h).mono hj
              · obtain rfl : q = k:=by omega
                rw [hs,ht]; exact hn
            have hmi : x.ks.length - (((k + 1 : Nat) : Int)).toNat < x.ks.length - ((k : Nat) : Int).toNat:=by have h0 : k < x.ks.length:=hlt; simp only [Int.toNat_natCast]; omega
            have hne : ¬ node s = node t → ¬ erase a0 = erase b0:=fun hn he=>hn (by
              have:=erases_at (hS'.er he _ (.inr rfl)) k
              simp only [WI.l1,WI.l2] at this
              rw [hs,ht] at this
              exact erase_node this)
            have hl1 : ∀ X Y Z : Box,j' < (B' ++ [X,Y,Z]).length:=fun X Y Z=>by rw [List.length_append]; omega
            have hl2 : ∀ X Y Z : Box,B.length < (B' ++ [X,Y,Z]).length:=fun X Y Z=>by rw [List.length_append]; omega
            have hb1 : (0 : Int) ≤ (k : Nat) ∧ ((k : Nat) : Int) < ((x.ks.length : Nat) : Int):=⟨by omega,by have h0 : k < x.ks.length:=hlt; omega⟩
            rcases kids_cases s with ⟨k1,e1,n1⟩ | ⟨x',k1,e1,n1⟩ <;> rcases kids_cases t with ⟨k2,e2,n2⟩ | ⟨y',k2,e2,n2⟩
            · have d0 : decide (¬ ((0 : Nat) : Int) = ((0 : Nat) : Int)) = false:=rfl
              by_cases hlab : lab s = lab t
              · have hnode : node s = node t:=(node_iff s t).2 ⟨hlab,by unfold klen; rw [n1,n2]⟩
                simp only [zW,zX,zD,builtinA,isLeaf,const1,Nat.reduceAdd,Nat.reduceMul,Nat.reduceSub,Nat.reduceLT,Nat.reduceLeDiff,Nat.reduceEqDiff,Nat.reduceBEq,Nat.reduceBNe,reduceIte,reduceCtorEq,Int.reduceToNat,Int.reduceLT,Int.reduceLE,Int.reduceEq,Int.reduceNe,Int.reduceNeg,ustrA,ti3,ti37,ti39,ti96,ti99,ti229,ti231,ti341,ti342,ca234,cf,Tryz.results154,g2_0,g2_k,s2_0,s2_k,e1,e2,d0,encI_take]
                refine ⟨by rw [encI_length]; omega,by rw [encI_length]; omega,?_⟩
                refine wpO_callv _ _ _ _ _ _ _ _ _ _ _ _ _ _ _ ?_
                simp only [zW,zX,zD,builtinA,isLeaf,const1,Nat.reduceAdd,Nat.reduceMul,Nat.reduceSub,Nat.reduceLT,Nat.reduceLeDiff,Nat.reduceEqDiff,Nat.reduceBEq,Nat.reduceBNe,reduceIte,reduceCtorEq,Int.reduceToNat,Int.reduceLT,Int.reduceLE,Int.reduceEq,Int.reduceNe,Int.reduceNeg,ustrA,ti3,ti37,ti39,ti96,ti99,ti229,ti231,ti341,ti342,ca234,cf,Tryz.results154,g2_0,g2_k,s2_0,s2_k,List.nil_append,List.append_nil]
                refine ⟨by kernel_rfl,?_⟩
                refine callK_intro (by simp only [zW,zX,zD,builtinA,isLeaf,const1,Nat.reduceAdd,Nat.reduceMul,Nat.reduceSub,Nat.reduceLT,Nat.reduceLeDiff,Nat.reduceEqDiff,Nat.reduceBEq,Nat.reduceBNe,reduceIte,reduceCtorEq,Int.reduceToNat,Int.reduceLT,Int.reduceLE,Int.reduceEq,Int.reduceNe,Int.reduceNeg,ustrA,frzL_encI,Option.map_some,List.cons_append,List.nil_append] <;> rfl) (tcI_same hUT s t hts htt bt it mt' hmt' _ (by simp; omega) (by simp; omega) (hgB _ _ _) (hgT _ _ _)) ?_ rfl
                rintro r A2 ⟨mt2,rfl,rfl,hmt2⟩
                rw [hsetT]
                simp only [zW,zX,zD,builtinA,isLeaf,const1,Nat.reduceAdd,Nat.reduceMul,Nat.reduceSub,Nat.reduceLT,Nat.reduceLeDiff,Nat.reduceEqDiff,Nat.reduceBEq,Nat.reduceBNe,reduceIte,reduceCtorEq,Int.reduceToNat,Int.reduceLT,Int.reduceLE,Int.reduceEq,Int.reduceNe,Int.reduceNeg,ustrA,ti3,ti37,ti39,ti96,ti99,ti229,ti231,ti341,ti342,ca234,cf,Tryz.results154,g2_0,g2_k,s2_0,s2_k,decide_eq_true hlab]
                refine callK_intro (by simp only [zW,zX,zD,builtinA,isLeaf,const1,Nat.reduceAdd,Nat.reduceMul,Nat.reduceSub,Nat.reduceLT,Nat.reduceLeDiff,Nat.reduceEqDiff,Nat.reduceBEq,Nat.reduceBNe,reduceIte,reduceCtorEq,Int.reduceToNat,Int.reduceLT,Int.reduceLE,Int.reduceEq,Int.reduceNe,Int.reduceNeg,ustrA,Option.map_some] <;> rfl) (impl_join0 _ _) ?_ rfl
                rintro r A2 ⟨rfl,rfl⟩
                simp only [zW,zX,zD,builtinA,isLeaf,const1,Nat.reduceAdd,Nat.reduceMul,Nat.reduceSub,Nat.reduceLT,Nat.reduceLeDiff,Nat.reduceEqDiff,Nat.reduceBEq,Nat.reduceBNe,reduceIte,reduceCtorEq,Int.reduceToNat,Int.reduceLT,Int.reduceLE,Int.reduceEq,Int.reduceNe,Int.reduceNeg,ustrA,ti3,ti37,ti39,ti96,ti99,ti229,ti231,ti341,ti342,ca234,cf,Tryz.results154,g2_0,g2_k,s2_0,s2_k,hi1,LoopK_eq]
                exact ⟨⟨k + 1,m',J',W',_,j',mt2,rfl,rfl,hmt2 hlab,hl1 _ _ _,hB2' _,hl2 _ _ _,hBq2 _,hle,hlt,hS',hnr J' (fun _ _ h=>h) ⟨hnode,.inl ⟨k1,k2⟩⟩⟩,hmi⟩
              · have hne':=hne (fun h=>hlab ((node_iff s t).1 h).1)
                simp only [zW,zX,zD,builtinA,isLeaf,const1,Nat.reduceAdd,Nat.reduceMul,Nat.reduceSub,Nat.reduceLT,Nat.reduceLeDiff,Nat.reduceEqDiff,Nat.reduceBEq,Nat.reduceBNe,reduceIte,reduceCtorEq,Int.reduceToNat,Int.reduceLT,Int.reduceLE,Int.reduceEq,Int.reduceNe,Int.reduceNeg,ustrA,ti3,ti37,ti39,ti96,ti99,ti229,ti231,ti341,ti342,ca234,cf,Tryz.results154,g2_0,g2_k,s2_0,s2_k,e1,e2,d0,encI_take]
                refine ⟨by rw [encI_length]; omega,by rw [encI_length]; omega,?_⟩
                refine wpO_callv _ _ _ _ _ _ _ _ _ _ _ _ _ _ _ ?_
                simp only [zW,zX,zD,builtinA,isLeaf,const1,Nat.reduceAdd,Nat.reduceMul,Nat.reduceSub,Nat.reduceLT,Nat.reduceLeDiff,Nat.reduceEqDiff,Nat.reduceBEq,Nat.reduceBNe,reduceIte,reduceCtorEq,Int.reduceToNat,Int.reduceLT,Int.reduceLE,Int.reduceEq,Int.reduceNe,Int.reduceNeg,ustrA,ti3,ti37,ti39,ti96,ti99,ti229,ti231,ti341,ti342,ca234,cf,Tryz.results154,g2_0,g2_k,s2_0,s2_k,List.nil_append,List.append_nil]
                refine ⟨by kernel_rfl,?_⟩
                refine callK_intro (by simp only [zW,zX,zD,builtinA,isLeaf,const1,Nat.reduceAdd,Nat.reduceMul,Nat.reduceSub,Nat.reduceLT,Nat.reduceLeDiff,Nat.reduceEqDiff,Nat.reduceBEq,Nat.reduceBNe,reduceIte,reduceCtorEq,Int.reduceToNat,Int.reduceLT,Int.reduceLE,Int.reduceEq,Int.reduceNe,Int.reduceNeg,ustrA,frzL_encI,Option.map_some,List.cons_append,List.nil_append] <;> rfl) (tcI_same hUT s t hts htt bt it mt' hmt' _ (by simp; omega) (by simp; omega) (hgB _ _ _) (hgT _ _ _)) ?_ rfl
                rintro r A2 ⟨mt2,rfl,rfl,hmt2⟩
                rw [hsetT]
                simp only [zW,zX,zD,builtinA,isLeaf,const1,Nat.reduceAdd,Nat.reduceMul,Nat.reduceSub,Nat.reduceLT,Nat.reduceLeDiff,Nat.reduceEqDiff,Nat.reduceBEq,Nat.reduceBNe,reduceIte,reduceCtorEq,Int.reduceToNat,Int.reduceLT,Int.reduceLE,Int.reduceEq,Int.reduceNe,Int.reduceNeg,ustrA,ti3,ti37,ti39,ti96,ti99,ti229,ti231,ti341,ti342,ca234,cf,Tryz.results154,g2_0,g2_k,s2_0,s2_k,decide_eq_false hlab,decide_eq_false hne']
                exact ⟨hout _ _ _,m',_,tk2,fun h=>absurd h hne'⟩
            · have hyp : 0 < y'.ks.length:=by simp [LL.ks]
              have d0 : decide (((0 : Nat) : Int) = ((y'.ks.length : Nat) : Int)) = false:=decide_eq_false (by omega)
              have hne':=hne (fun h=>by have:=((node_iff s t).1 h).2; unfold klen at this; rw [n1,n2] at this; omega)
              simp only [zW,zX,zD,builtinA,isLeaf,const1,Nat.reduceAdd,Nat.reduceMul,Nat.reduceSub,Nat.reduceLT,Nat.reduceLeDiff,Nat.reduceEqDiff,Nat.reduceBEq,Nat.reduceBNe,reduceIte,reduceCtorEq,Int.reduceToNat,Int.reduceLT,Int.reduceLE,Int.reduceEq,Int.reduceNe,Int.reduceNeg,ustrA,ti3,ti37,ti39,ti96,ti99,ti229,ti231,ti341,ti342,ca234,cf,Tryz.results154,g2_0,g2_k,s2_0,s2_k,e1,e2,d0,encIs_length,encI_take,decide_eq_false hne']
              exact ⟨hout _ _ _,m',_,tk2,fun h=>absurd h hne'⟩
            · have hxp : 0 < x'.ks.length:=by simp [LL.ks]
              have d0 : decide (((x'.ks.length : Nat) : Int) = ((0 : Nat) : Int)) = false:=decide_eq_false (by omega)
              have hne':=hne (fun h=>by have:=((node_iff s t).1 h).2; unfold klen at this; rw [n1,n2] at this; omega)
              simp only [zW,zX,zD,builtinA,isLeaf,const1,Nat.reduceAdd,Nat.reduceMul,Nat.reduceSub,Nat.reduceLT,Nat.reduceLeDiff,Nat.reduceEqDiff,Nat.reduceBEq,Nat.reduceBNe,reduceIte,reduceCtorEq,Int.reduceToNat,Int.reduceLT,Int.reduceLE,Int.reduceEq,Int.reduceNe,Int.reduceNeg,ustrA,ti3,ti37,ti39,ti96,ti99,ti229,ti231,ti341,ti342,ca234,cf,Tryz.results154,g2_0,g2_k,s2_0,s2_k,e1,e2,d0,encIs_length,encI_take,decide_eq_false hne']
              exact ⟨hout _ _ _,m',_,tk2,fun h=>absurd h hne'⟩
            · by_cases hll : x'.ks.length = y'.ks.length
              · have d0 : decide (((x'.ks.length : Nat) : Int) = ((y'.ks.length : Nat) : Int)) = true:=decide_eq_true (by omega)
                by_cases hlab : lab s = lab t
                · have hnode : node s = node t:=(node_iff s t).2 ⟨hlab,by unfold klen; rw [n1,n2,hll]⟩
                  simp only [zW,zX,zD,builtinA,isLeaf,const1,Nat.reduceAdd,Nat.reduceMul,Nat.reduceSub,Nat.reduceLT,Nat.reduceLeDiff,Nat.reduceEqDiff,Nat.reduceBEq,Nat.reduceBNe,reduceIte,reduceCtorEq,Int.reduceToNat,Int.reduceLT,Int.reduceLE,Int.reduceEq,Int.reduceNe,Int.reduceNeg,ustrA,ti3,ti37,ti39,ti96,ti99,ti229,ti231,ti341,ti342,ca234,cf,Tryz.results154,g2_0,g2_k,s2_0,s2_k,e1,e2,d0,encIs_length,encI_take]
                  refine ⟨by rw [encI_length]; omega,by rw [encI_length]; omega,?_⟩
                  refine wpO_callv _ _ _ _ _ _ _ _ _ _ _ _ _ _ _ ?_
                  simp only [zW,zX,zD,builtinA,isLeaf,const1,Nat.reduceAdd,Nat.reduceMul,Nat.reduceSub,Nat.reduceLT,Nat.reduceLeDiff,Nat.reduceEqDiff,Nat.reduceBEq,Nat.reduceBNe,reduceIte,reduceCtorEq,Int.reduceToNat,Int.reduceLT,Int.reduceLE,Int.reduceEq,Int.reduceNe,Int.reduceNeg,ustrA,ti3,ti37,ti39,ti96,ti99,ti229,ti231,ti341,ti342,ca234,cf,Tryz.results154,g2_0,g2_k,s2_0,s2_k,List.nil_append,List.append_nil]
                  refine ⟨by kernel_rfl,?_⟩
                  refine callK_intro (by simp only [zW,zX,zD,builtinA,isLeaf,const1,Nat.reduceAdd,Nat.reduceMul,Nat.reduceSub,Nat.reduceLT,Nat.reduceLeDiff,Nat.reduceEqDiff,Nat.reduceBEq,Nat.reduceBNe,reduceIte,reduceCtorEq,Int.reduceToNat,Int.reduceLT,Int.reduceLE,Int.reduceEq,Int.reduceNe,Int.reduceNeg,ustrA,frzL_encI,Option.map_some,List.cons_append,List.nil_append] <;> rfl) (tcI_same hUT s t hts htt bt it mt' hmt' _ (by simp; omega) (by simp; omega) (hgB _ _ _) (hgT _ _ _)) ?_ rfl
                  rintro r A2 ⟨mt2,rfl,rfl,hmt2⟩
                  rw [hsetT]
                  simp only [zW,zX,zD,builtinA,isLeaf,const1,Nat.reduceAdd,Nat.reduceMul,Nat.reduceSub,Nat.reduceLT,Nat.reduceLeDiff,Nat.reduceEqDiff,Nat.reduceBEq,Nat.reduceBNe,reduceIte,reduceCtorEq,Int.reduceToNat,Int.reduceLT,Int.reduceLE,Int.reduceEq,Int.reduceNe,Int.reduceNeg,ustrA,ti3,ti37,ti39,ti96,ti99,ti229,ti231,ti341,ti342,ca234,cf,Tryz.results154,g2_0,g2_k,s2_0,s2_k,decide_eq_true hlab]
                  refine callK_intro (by simp only [zW,zX,zD,builtinA,isLeaf,const1,Nat.reduceAdd,Nat.reduceMul,Nat.reduceSub,Nat.reduceLT,Nat.reduceLeDiff,Nat.reduceEqDiff,Nat.reduceBEq,Nat.reduceBNe,reduceIte,reduceCtorEq,Int.reduceToNat,Int.reduceLT,Int.reduceLE,Int.reduceEq,Int.reduceNe,Int.reduceNeg,ustrA] <;> rfl) (impl_join hU (fun x=>.refl x) (fun _ _ _ h k=>.trans h k) (fun _ _ h=>.symm h) m' hS'.ci x' y' (hbx x' k1) (hby y' k2) i _ (by simp; omega) (hgA _ _ _)) ?_ rfl
                  rintro v A3 ⟨m2,rfl,⟨rfl,hr,hc2,hm2⟩ | ⟨rfl,hm2,hc2⟩⟩
                  · simp only [zW,zX,zD,builtinA,isLeaf,const1,Nat.reduceAdd,Nat.reduceMul,Nat.reduceSub,Nat.reduceLT,Nat.reduceLeDiff,Nat.reduceEqDiff,Nat.reduceBEq,Nat.reduceBNe,reduceIte,reduceCtorEq,Int.reduceToNat,Int.reduceLT,Int.reduceLE,Int.reduceEq,Int.reduceNe,Int.reduceNeg,ustrA,ti3,ti37,ti39,ti96,ti99,ti229,ti231,ti341,ti342,ca234,cf,Tryz.results154,g2_0,g2_k,s2_0,s2_k,hset,hi1,LoopK_eq]
                    exact ⟨⟨k + 1,m2,J',W',_,j',mt2,rfl,rfl,hmt2 hlab,hl1 _ _ _,hB2' _,hl2 _ _ _,hBq2 _,by rw [hm2]; exact hle,hlt,hS'.same hc2,hnr J' (fun _ _ h=>h) ⟨hnode,.inr ⟨x',y',k1,k2,hr⟩⟩⟩,hmi⟩
                  · have hSm:=hS'.more (hbx x' k1) (hby y' k2) hll (hc2 (Eqv ((x',y') :: J')) (eqv_more _) (fun _ _ h=>.symm h) (fun _ _ _ h k=>.trans h k) (.base (by simp))) (fun he=>by
                      have:=erases_at (hS'.er he _ (.inr rfl)) k
                      simp only [WI.l1,WI.l2] at this
                      rw [hs,ht] at this
                      exact erase_kids this k1 k2)
                    have hsl:=hSm.ci.le
                    have hrow : W'.map (WI.row a0 b0) ++ [[.islice x'.b x'.off (encIs x'.ks),.islice y'.b y'.off (encIs y'.ks)]] = (W' ++ [WI.pr x' y']).map (WI.row a0 b0):=by simp [WI.row]
                    have hleaf : ∀ v ∈ [AV.islice x'.b x'.off (encIs x'.ks),.islice y'.b y'.off (encIs y'.ks)],isLeaf v = true:=by simp [isLeaf]
                    simp only [zW,zX,zD,builtinA,isLeaf,const1,Nat.reduceAdd,Nat.reduceMul,Nat.reduceSub,Nat.reduceLT,Nat.reduceLeDiff,Nat.reduceEqDiff,Nat.reduceBEq,Nat.reduceBNe,reduceIte,reduceCtorEq,Int.reduceToNat,Int.reduceLT,Int.reduceLE,Int.reduceEq,Int.reduceNe,Int.reduceNeg,ustrA,ti3,ti37,ti39,ti96,ti99,ti229,ti231,ti341,ti342,ca234,cf,Tryz.results154,g2_0,g2_k,s2_0,s2_k,hset,hgj',hB2',hrow,hi1,LoopK_eq]
                    refine ⟨fun v hv=>hleaf v hv,⟨by simp,by rw [List.length_map]; omega⟩,⟨k + 1,m2,(x',y') :: J',W' ++ [.pr x' y'],_,B'.length + 4,mt2,rfl,rfl,hmt2 hlab,?_,hq3 _ _ _ _ _ _ _,?_,hq4 _ _ _ _ _ _,?_,hlt,hSm,hnr _ (eqv_more _) ⟨hnode,.inr ⟨x',y',k1,k2,.base (by simp)⟩⟩⟩,hmi⟩
                    · simp only [List.length_append,List.length_set,List.length_cons,List.length_nil]; omega
                    · simp only [List.length_append,List.length_set,List.length_cons,List.length_nil]; omega
                    · rw [List.length_append,List.length_singleton]; omega
                · have hne':=hne (fun h=>hlab ((node_iff s t).1 h).1)
                  simp only [zW,zX,zD,builtinA,isLeaf,const1,Nat.reduceAdd,Nat.reduceMul,Nat.reduceSub,Nat.reduceLT,Nat.reduceLeDiff,Nat.reduceEqDiff,Nat.reduceBEq,Nat.reduceBNe,reduceIte,reduceCtorEq,Int.reduceToNat,Int.reduceLT,Int.reduceLE,Int.reduceEq,Int.reduceNe,Int.reduceNeg,ustrA,ti3,ti37,ti39,ti96,ti99,ti229,ti231,ti341,ti342,ca234,cf,Tryz.results154,g2_0,g2_k,s2_0,s2_k,e1,e2,d0,encIs_length,encI_take]
                  refine ⟨by rw [encI_length]; omega,by rw [encI_length]; omega,?_⟩
                  refine wpO_callv _ _ _ _ _ _ _ _ _ _ _ _ _ _ _ ?_
                  simp only [zW,zX,zD,builtinA,isLeaf,const1,Nat.reduceAdd,Nat.reduceMul,Nat.reduceSub,Nat.reduceLT,Nat.reduceLeDiff,Nat.reduceEqDiff,Nat.reduceBEq,Nat.reduceBNe,reduceIte,reduceCtorEq,Int.reduceToNat,Int.reduceLT,Int.reduceLE,Int.reduceEq,Int.reduceNe,Int.reduceNeg,ustrA,ti3,ti37,ti39,ti96,ti99,ti229,ti231,ti341,ti342,ca234,cf,Tryz.results154,g2_0,g2_k,s2_0,s2_k,List.nil_append,List.append_nil]
                  refine ⟨by kernel_rfl,?_⟩
                  refine callK_intro (by simp only [zW,zX,zD,builtinA,isLeaf,const1,Nat.reduceAdd,Nat.reduceMul,Nat.reduceSub,Nat.reduceLT,Nat.reduceLeDiff,Nat.reduceEqDiff,Nat.reduceBEq,Nat.reduceBNe,reduceIte,reduceCtorEq,Int.reduceToNat,Int.reduceLT,Int.reduceLE,Int.reduceEq,Int.reduceNe,Int.reduceNeg,ustrA,frzL_encI,Option.map_some,List.cons_append,List.nil_append] <;> rfl) (tcI_same hUT s t hts htt bt it mt' hmt' _ (by simp; omega) (by simp; omega) (hgB _ _ _) (hgT _ _ _)) ?_ rfl
                  rintro r A2 ⟨mt2,rfl,rfl,hmt2⟩
                  rw [hsetT]
                  simp only [zW,zX,zD,builtinA,isLeaf,const1,Nat.reduceAdd,Nat.reduceMul,Nat.reduceSub,Nat.reduceLT,Nat.reduceLeDiff,Nat.reduceEqDiff,Nat.reduceBEq,Nat.reduceBNe,reduceIte,reduceCtorEq,Int.reduceToNat,Int.reduceLT,Int.reduceLE,Int.reduceEq,Int.reduceNe,Int.reduceNeg,ustrA,ti3,ti37,ti39,ti96,ti99,ti229,ti231,ti341,ti342,ca234,cf,Tryz.results154,g2_0,g2_k,s2_0,s2_k,decide_eq_false hlab,decide_eq_false hne']
                  exact ⟨hout _ _ _,m',_,tk2,fun h=>absurd h hne'⟩
              · have d0 : decide (((x'.ks.length : Nat) : Int) = ((y'.ks.length : Nat) : Int)) = false:=decide_eq_false (by omega)
                have hne':=hne (fun h=>by have:=((node_iff s t).1 h).2; unfold klen at this; rw [n1,n2] at this; omega)
                simp only [zW,zX,zD,builtinA,isLeaf,const1,Nat.reduceAdd,Nat.reduceMul,Nat.reduceSub,Nat.reduceLT,Nat.reduceLeDiff,Nat.reduceEqDiff,Nat.reduceBEq,Nat.reduceBNe,reduceIte,reduceCtorEq,Int.reduceToNat,Int.reduceLT,Int.reduceLE,Int.reduceEq,Int.reduceNe,Int.reduceNeg,ustrA,ti3,ti37,ti39,ti96,ti99,ti229,ti231,ti341,ti342,ca234,cf,Tryz.results154,g2_0,g2_k,s2_0,s2_k,e1,e2,d0,encIs_length,encI_take,decide_eq_false hne']
                exact ⟨hout _ _ _,m',_,tk2,fun h=>absurd h hne'⟩
          · have hlt1 : decide (((k : Nat) : Int) < ((x.ks.length : Nat) : Int)) = false:=decide_eq_false (by have h0 : ¬ k < x.ks.length:=hlt; omega)
            have hmu2:=hmu (.ptr A.length 0) m' mt' B' j' W' hB'
            simp only [zW,zX,zD,builtinA,isLeaf,const1,Nat.reduceAdd,Nat.reduceMul,Nat.reduceSub,Nat.reduceLT,Nat.reduceLeDiff,Nat.reduceEqDiff,Nat.reduceBEq,Nat.reduceBNe,reduceIte,reduceCtorEq,Int.reduceToNat,Int.reduceLT,Int.reduceLE,Int.reduceEq,Int.reduceNe,Int.reduceNeg,ustrA,ti3,ti37,ti39,ti96,ti99,ti229,ti231,ti341,ti342,ca234,cf,Tryz.results154,g2_0,g2_k,s2_0,s2_k,hgj',hB',hBq,hlt1,LoopK_eq]
            have hdn:=hS'.done hxy (fun q hq=>hnear q (by
              have hq' : q < x.ks.length:=hq
              have h0 : ¬ k < x.ks.length:=hlt
              omega))
            refine ⟨⟨m',J',W',B',j',mt',rfl,rfl,hmt',hj',hB',hWb,hdn⟩,?_⟩
            rw [hmu2]
            omega
end Go.Proofs.YtnjdbgiincliaaaGreat.SX
