/- DrawMt, Laid. -/
import Derived.Test.YtejbjgmgdbcddaaGreatDoorK17
import Derived.Test.YtejbjgmgdbcddaaGreatDoorAbsW3
import Derived.Test.YtejbjgmgdbcddaaGreatDoorCards
import Derived.Test.YtejbjgmgdbcddaaGreatDoorTie
import Derived.ChangeSame
import Derived.ChangeVars
import Derived.JoinedOf
import Derived.LaidLaws
import Derived.LaidHandle
import Derived.Stop.Joined
import Derived.SevenTiedAt
/- Two drawn signatures, of which the first often matches the second; an abstract type and a value less, by the model. -/
set_option linter.unusedVariables false
set_option linter.unusedSimpArgs false
namespace Go.Proofs.YtejbjgmgdbcddaaGreatDoor
open Go.Abs
theorem abL_small {P : SigI → Prop} {nm : List UInt8} (h1 : P ⟨1,nm,ty0⟩) : ∀ {s s' : List SigI},abL nm s = some s' → (∀ x ∈ s,P x) → s'.length = s.length ∧ ∀ x ∈ s',P x
  | [],s',h,_=>by cases h
  | x :: l,s',h,hp=>by
    rw [abL] at h
    split at h
    · cases h
      refine ⟨rfl,fun y hy=>?_⟩
      rcases List.mem_cons.1 hy with rfl | hy
      · exact h1
      · exact hp y (by simp [hy])
    · obtain ⟨z,hz,rfl⟩:=Option.map_eq_some_iff.1 h
      obtain ⟨h2,h3⟩:=abL_small h1 hz fun y hy=>hp y (by simp [hy])
      refine ⟨by simp [h2],fun y hy=>?_⟩
      rcases List.mem_cons.1 hy with rfl | hy
      · exact hp _ (by simp)
      · exact h3 y hy
theorem abT_small {P : SigI → Prop} {nm : List UInt8} (h1 : P ⟨1,nm,ty0⟩) {s : List SigI} (hp : ∀ x ∈ s,P x) : ((abT s nm).getD []).length ≤ s.length ∧ ∀ x ∈ (abT s nm).getD [],P x:=by
  cases h : abT s nm with
  | none=>simp
  | some s' =>
    rw [abT] at h
    split at h
    · obtain ⟨h2,h3⟩:=abL_small h1 h hp
      exact ⟨by simp [h2],by simpa using h3⟩
    · cases h
theorem drT_small {P : SigI → Prop} {nm : List UInt8} {s : List SigI} (hp : ∀ x ∈ s,P x) : ((drT s nm).getD []).length ≤ s.length ∧ ∀ x ∈ (drT s nm).getD [],P x:=by
  rw [drT]
  split
  · exact ⟨List.length_filter_le _ _,fun x hx=>hp x (List.mem_filter.1 hx).1⟩
  · simp
theorem frz_one {A B : List Box} {n j sz s : Nat} {r : List (List AV)} (hn : A.length = n) (hj : j < B.length) (h : B.getD j .dead = .row sz r s) : frzs [.own (n + j)] (A ++ B) = some ([.slice r],A ++ B.set j (.row sz r r.length)):=by
  subst hn
  have g1 : (A ++ B).getD (A.length + j) .dead = .row sz r s:=by rw [Abs.getD_append_right (by omega),show A.length + j - A.length = j by omega]; exact h
  have g2 : ∀ X : Box,(A ++ B).set (A.length + j) X = A ++ B.set j X:=fun X=>by simp [List.set_append]
  simp only [frzs,frzC,frz1,g1,g2]
set_option maxRecDepth 100000 in
set_option maxHeartbeats 4000000 in
theorem spec_l3Weak (bs : List UInt8) (p : Nat) (s : List SigI) (hs : s.length ≤ 5) (hsm : ∀ x ∈ s,SmI x) (i : Nat) (A : List Box) (hi : i < A.length) (hA : A.getD i .dead = Rd bs p) (hp : p < 2 ^ 37) :
    ACalls Tryz.prog 63 [.ptr i 0,.slice (sEs s)] A (fun r A'=>∃ s' p',r = .slice (sEs s') ∧ s'.length ≤ 5 ∧ (∀ x ∈ s',SmI x) ∧ p ≤ p' ∧ p' ≤ p + 20 ∧ A' = A.set i (Rd bs p')):=by
  have hgA : ∀ X (B : List Box),(A.set i X ++ B).getD i .dead = X:=fun X B=>by rw [getD_app1 _ _ _ _ (by simpa using hi),getD_set1 hi]
  have hgA1 : ∀ X,(A.set i X).getD i .dead = X:=fun X=>getD_set1 hi
  have hgA0 : ∀ (B : List Box),(A ++ B).getD i .dead = Rd bs p:=fun B=>by rw [getD_app1 _ _ _ _ hi]; exact hA
  refine acalls_enter (cf:=cf 67 [0,1,4,5,6,7,8,9,10,16,29,38,47,63]) foll Tryz.func63 Tryz.ntmps63 (by simp [cf]) ?_
  simp only [Tryz.f63,EnterK_some,zW,zX,zD,builtinA,isLeaf,const1,ustrA,simprocAttr,ti3,ti9,ti23,ti41,ti88,ti128,ca8,ca15,ca24,ca25,ca42,ca64,ca69,cf,Tryz.results63]
  refine ⟨by simp,?_⟩
  refine callK_intro (by simp only [zW,zX,zD,builtinA,isLeaf,const1,ustrA,simprocAttr,hi]; rfl) (spec_num bs p [1,2,0,3] i _ (by simp; omega) (hgA0 _) (by omega) (by simp)) ?_ rfl
  rintro v A' ⟨v,rfl,hv,rfl⟩
  have hv3 : 0 ≤ v ∧ v ≤ 3:=by simp at hv; omega
  obtain ⟨v,rfl⟩:=Int.eq_ofNat_of_zero_le hv3.1
  simp only [zW,zX,zD,builtinA,isLeaf,const1,ustrA,simprocAttr,ti3,ti9,ti23,ti41,ti88,ti128,ca8,ca15,ca24,ca25,ca42,ca64,ca69,cf,Tryz.results63,hi]
  refine aloop_intro [0,5,6] (fun e A'=>∃ (n : Nat) (out : List SigI) (p' : Nat) (B : List Box),n ≤ 3 ∧ out.length ≤ 5 ∧ (∀ x ∈ out,SmI x) ∧ p ≤ p' ∧ p' + 3 * n ≤ p + 10 ∧ e = [(0,.ptr i 0),(5,.slice (sEs out)),(6,.int .i64 n)] ∧ A' = A.set i (Rd bs p') ++ B) (fun e _=>(intOf (Abs.look 6 e)).toNat) ?_ ?_
  · simp only [zW,zX,zD,builtinA,isLeaf,const1,ustrA,simprocAttr,ti3,ti9,ti23,ti41,ti88,ti128,ca8,ca15,ca24,ca25,ca42,ca64,ca69,cf,Tryz.results63]
    exact ⟨v,s,p + 1,_,by omega,hs,hsm,by omega,by omega,rfl,rfl⟩
  · rintro e A' ⟨n,out,p',B,hn,hol,hom,hp1,hp2,rfl,rfl⟩
    have hoo : ∀ x ∈ out,x.Ok ∧ sz x.typ ≤ 1048576:=fun x hx=>(hom x hx).ok
    have d1 : decide ((n : Int) > 0) = decide (0 < n):=by simp
    have d1' : decide ((0 : Int) < (n : Int)) = decide (0 < n):=by simp
    simp only [zW,zX,zD,builtinA,isLeaf,const1,ustrA,simprocAttr,ti3,ti9,ti23,ti41,ti88,ti128,ca8,ca15,ca24,ca25,ca42,ca64,ca69,cf,Tryz.results63,d1,d1']
    refine condK_intro (fun h2=>?_) (fun h2=>?_)
    · have hn2 : 0 < n:=by simpa using h2
      have hn1 : IntKind.i64.wrap ((n : Int) - 1) = ((n - 1 : Nat) : Int):=by rw [wrap64 (by omega) (by omega)]; omega
      simp only [zW,zX,zD,builtinA,isLeaf,const1,ustrA,simprocAttr,ti3,ti9,ti23,ti41,ti88,ti128,ca8,ca15,ca24,ca25,ca42,ca64,ca69,cf,Tryz.results63,hi]
      refine ⟨by simp,?_⟩
      refine callK_intro (by simp only [zW,zX,zD,builtinA,isLeaf,const1,ustrA,simprocAttr,hi]; rfl) (spec_of bs p' [[116],[117],[118]] i _ (by simp; omega) (hgA _ _) (by omega) (by simp)) ?_ rfl
      rintro r A' ⟨nm,rfl,hnm,rfl⟩
      have hnl : nm.length ≤ 2:=by simp at hnm; rcases hnm with rfl | rfl | rfl <;> simp
      simp only [zW,zX,zD,builtinA,isLeaf,const1,ustrA,simprocAttr,ti3,ti9,ti23,ti41,ti88,ti128,ca8,ca15,ca24,ca25,ca42,ca64,ca69,cf,Tryz.results63,hi]
      refine callO_intro (spec_AbstractType out (by omega) hoo nm _) ?_
      rintro r A' ⟨rfl,rfl⟩
      obtain ⟨ha1,ha2⟩:=abT_small (P:=SmI) (nm:=nm) ⟨hnl,by simp [ty0,sz,szs]⟩ hom
      generalize (abT out nm).getD [] = X at *
      generalize (abT out nm).isSome = q at *
      simp only [zW,zX,zD,builtinA,isLeaf,const1,ustrA,simprocAttr,ti3,ti9,ti23,ti41,ti88,ti128,ca8,ca15,ca24,ca25,ca42,ca64,ca69,cf,Tryz.results63,hi]
      refine callK_intro (by simp only [zW,zX,zD,builtinA,isLeaf,const1,ustrA,simprocAttr,hi]; rfl) (spec_pick bs (p' + 1) 2 i _ (by simp; omega) (hgA _ _) (by omega) (by omega)) ?_ rfl
      rintro r A' ⟨j1,rfl,h0,h1,rfl⟩
      by_cases k0 : j1 = 0
      · simp only [zW,zX,zD,builtinA,isLeaf,const1,ustrA,simprocAttr,ti3,ti9,ti23,ti41,ti88,ti128,ca8,ca15,ca24,ca25,ca42,ca64,ca69,cf,Tryz.results63,hi,decide_eq_true k0]
        refine ⟨by simp,?_⟩
        refine callK_intro (by simp only [zW,zX,zD,builtinA,isLeaf,const1,ustrA,simprocAttr,hi]; rfl) (spec_of bs (p' + 1 + 1) [[120],[121],[102]] i _ (by simp; omega) (hgA _ _) (by omega) (by simp)) ?_ rfl
        rintro r A' ⟨nm2,rfl,hnm2,rfl⟩
        simp only [zW,zX,zD,builtinA,isLeaf,const1,ustrA,simprocAttr,ti3,ti9,ti23,ti41,ti88,ti128,ca8,ca15,ca24,ca25,ca42,ca64,ca69,cf,Tryz.results63,hi]
        refine callO_intro (spec_DropVal out (by omega) hoo nm2 _) ?_
        rintro r A' ⟨rfl,rfl⟩
        obtain ⟨hb1,hb2⟩:=drT_small (nm:=nm2) hom
        generalize (drT out nm2).getD [] = Z at *
        generalize (drT out nm2).isSome = q2 at *
        cases q2 with
        | false =>
          simp only [zW,zX,zD,builtinA,isLeaf,const1,ustrA,simprocAttr,ti3,ti9,ti23,ti41,ti88,ti128,ca8,ca15,ca24,ca25,ca42,ca64,ca69,cf,Tryz.results63,hi,hn1,LoopK_eq]
          refine ⟨⟨n - 1,out,_,_,by omega,hol,hom,?_,?_,rfl,rfl⟩,?_⟩
          · omega
          · omega
          · simp only [intOf]; omega
        | true =>
          simp only [zW,zX,zD,builtinA,isLeaf,const1,ustrA,simprocAttr,ti3,ti9,ti23,ti41,ti88,ti128,ca8,ca15,ca24,ca25,ca42,ca64,ca69,cf,Tryz.results63,hi,hn1,LoopK_eq]
          refine ⟨⟨n - 1,Z,_,_,by omega,by omega,hb2,?_,?_,rfl,rfl⟩,?_⟩
          · omega
          · omega
          · simp only [intOf]; omega
      · cases q with
        | false =>
          simp only [zW,zX,zD,builtinA,isLeaf,const1,ustrA,simprocAttr,ti3,ti9,ti23,ti41,ti88,ti128,ca8,ca15,ca24,ca25,ca42,ca64,ca69,cf,Tryz.results63,hi,decide_eq_false k0,hn1,LoopK_eq]
          refine ⟨⟨n - 1,out,_,_,by omega,hol,hom,?_,?_,rfl,rfl⟩,?_⟩
          · omega
          · omega
          · simp only [intOf]; omega
        | true =>
          simp only [zW,zX,zD,builtinA,isLeaf,const1,ustrA,simprocAttr,ti3,ti9,ti23,ti41,ti88,ti128,ca8,ca15,ca24,ca25,ca42,ca64,ca69,cf,Tryz.results63,hi,decide_eq_false k0,hn1,LoopK_eq]
          refine ⟨⟨n - 1,X,_,_,by omega,by omega,ha2,?_,?_,rfl,rfl⟩,?_⟩
          · omega
          · omega
          · simp only [intOf]; omega
    · have hn2 : n = 0:=by simp at h2; omega
      simp only [zW,zX,zD,builtinA,isLeaf,const1,ustrA,simprocAttr,ti3,ti9,ti23,ti41,ti88,ti128,ca8,ca15,ca24,ca25,ca42,ca64,ca69,cf,Tryz.results63,hi]
      refine callK_intro (by simp only [zW,zX,zD,builtinA,isLeaf,const1,ustrA,simprocAttr,hi]; rfl) (spec_pick bs p' 3 i _ (by simp; omega) (hgA _ _) (by omega) (by omega)) ?_ rfl
      rintro r A' ⟨j1,rfl,h0,h1,rfl⟩
      have fin : ∀ (C : List Box),True:=fun _=>trivial
      by_cases k0 : j1 = 0
      · by_cases k1 : 1 < out.length
        · have e1 : decide ((out.length : Int) > 1) = true:=decide_eq_true (by omega)
          have e1' : decide ((1 : Int) < (out.length : Int)) = true:=decide_eq_true (by omega)
          have hw1 : IntKind.i64.wrap ((out.length : Int) - 1) = ((out.length - 1 : Nat) : Int):=by rw [wrap64 (by omega) (by omega)]; omega
          have hl1 : out.length - 1 < out.length:=by omega
          have hge:=sEs_getE hl1
          have hlf:=sE_leaf (out[out.length - 1])
          have hml:=hom _ (List.getElem_mem hl1)
          have hE : sE out[out.length - 1] = .int .i64 out[out.length - 1].kind :: .str out[out.length - 1].name :: enc out[out.length - 1].typ:=rfl
          have hso : [sE out[out.length - 1]] ++ (sEs out).take (out.length - 1) = sEs (out[out.length - 1] :: out.take (out.length - 1)):=by simp [sEs,List.map_take]
          have hno : ∀ x ∈ out[out.length - 1] :: out.take (out.length - 1),SmI x:=fun x hx=>by
            rcases List.mem_cons.1 hx with rfl | hx
            · exact hml
            · exact hom x (List.mem_of_mem_take hx)
          have hnl : (out[out.length - 1] :: out.take (out.length - 1)).length ≤ 5:=by simp; omega
          have hnoo : ∀ x ∈ out[out.length - 1] :: out.take (out.length - 1),x.Ok ∧ sz x.typ ≤ 1048576:=fun x hx=>(hno x hx).ok
          generalize out[out.length - 1] = y at *
          generalize hnw : y :: out.take (out.length - 1) = nw at *
          have hge' : (sEs out).getD (out.length - 1) [] = .int .i64 y.kind :: .str y.name :: enc y.typ:=hge
          rw [hE] at hso
          have hlf' : ∀ v ∈ AV.int .i64 y.kind :: .str y.name :: enc y.typ,isLeaf v = true:=hlf
          simp only [zW,zX,zD,builtinA,isLeaf,const1,ustrA,simprocAttr,ti3,ti9,ti23,ti41,ti88,ti128,ca8,ca15,ca24,ca25,ca42,ca64,ca69,cf,Tryz.results63,hi,decide_eq_true k0,sEs_length,e1,e1',hw1,Int.toNat_natCast,hge',enc_length,enc_take,sub_drop,frzL_enc,sub_closed,Option.map_some]
          refine ⟨⟨by omega,by omega⟩,?_⟩
          refine .inr (drawE_intro [(false,0,0),(true,0,0),(false,0,1),(false,0,1),(false,0,1),(false,0,1),(false,0,1),(true,1,1),(false,2,2)] [A.set i (Rd bs (p' + 1)) ++ (B ++ [.cells (.int .i64 y.kind :: .str y.name :: enc y.typ)]),A.set i (Rd bs (p' + 1)) ++ (B ++ [.cells (.int .i64 y.kind :: .str y.name :: enc y.typ),.row 6 [.int .i64 y.kind :: .str y.name :: enc y.typ] 0]),A.set i (Rd bs (p' + 1)) ++ (B ++ [.cells (.int .i64 y.kind :: .str y.name :: enc y.typ),.dead,.row 6 (sEs nw) 0])] 2 rfl (by kernel_rfl) (by kernel_rfl) (by kernel_rfl) (by kernel_rfl) (by kernel_rfl) (by kernel_rfl) ?_)
          simp only [zW,zX,zD,builtinA,isLeaf,const1,ustrA,simprocAttr,ti3,ti9,ti23,ti41,ti88,ti128,ca8,ca15,ca24,ca25,ca42,ca64,ca69,cf,Tryz.results63,hi,sEs_length,hw1,Int.toNat_natCast,hge',hso,enc_length,enc_take,sub_drop,frzL_enc,sub_closed,Option.map_some]
          have hrw:=rows_sEs out
          have hYl : B.length + 2 < (B ++ [Box.cells (.int .i64 y.kind :: .str y.name :: enc y.typ),.dead,.row 6 (sEs nw) 0]).length:=by simp
          have hYg : (B ++ [Box.cells (.int .i64 y.kind :: .str y.name :: enc y.typ),.dead,.row 6 (sEs nw) 0]).getD (B.length + 2) .dead = .row 6 (sEs nw) 0:=by rw [Abs.getD_append_right (by omega),show B.length + 2 - B.length = 2 by omega]; rfl
          refine ⟨fun v hv=>hlf' v hv,⟨hrw,by omega,by omega⟩,⟨hrw,by omega,by omega⟩,⟨fun r hr=>hrw r (List.mem_of_mem_take hr),by simp [sEs_length]; omega⟩,?_⟩
          generalize B ++ [Box.cells (.int .i64 y.kind :: .str y.name :: enc y.typ),.dead,.row 6 (sEs nw) 0] = Y at *
          have hfz:=frz_one (A:=A.set i (Rd bs (p' + 1))) (List.length_set) hYl hYg
          refine callK_intro hfz (spec_SigValid nw (by omega) hnoo _) ?_ rfl
          rintro r A' ⟨rfl,rfl⟩
          cases hsv : sigB nw with
          | false =>
            simp only [zW,zX,zD,builtinA,isLeaf,const1,ustrA,simprocAttr,ti3,ti9,ti23,ti41,ti88,ti128,ca8,ca15,ca24,ca25,ca42,ca64,ca69,cf,Tryz.results63,hi]
            refine callO_intro (spec_l2Copy out (by omega) (fun x hx=>(hoo x hx).2) _) ?_
            rintro r A' ⟨C,k,rfl,rfl,hk,hgk⟩
            have hgk2 : ∀ X : Box,(Y.set (B.length + 2) X ++ C).getD (Y.length + k) .dead = .row 6 (sEs out) 0:=fun X=>by rw [Abs.getD_append_right (by simp),List.length_set,show Y.length + k - Y.length = k by omega]; exact hgk
            simp only [zW,zX,zD,builtinA,isLeaf,const1,ustrA,simprocAttr,ti3,ti9,ti23,ti41,ti88,ti128,ca8,ca15,ca24,ca25,ca42,ca64,ca69,cf,Tryz.results63,hgk2,hk,Nat.add_assoc]
            exact ⟨outer_set A _ i _ (rd_closed _ _ _),out,_,rfl,hol,hom,by omega,by omega,rfl⟩
          | true =>
            simp only [zW,zX,zD,builtinA,isLeaf,const1,ustrA,simprocAttr,ti3,ti9,ti23,ti41,ti88,ti128,ca8,ca15,ca24,ca25,ca42,ca64,ca69,cf,Tryz.results63,hi]
            have hfz2:=frz_one (A:=A.set i (Rd bs (p' + 1))) (B:=Y.set (B.length + 2) (.row 6 (sEs nw) (sEs nw).length)) (j:=B.length + 2) (List.length_set) (by simpa using hYl) (getD_set_self hYl)
            refine callK_intro hfz2 (spec_l2Copy nw (by omega) (fun x hx=>(hnoo x hx).2) _) ?_ rfl
            rintro r A' ⟨C,k,rfl,rfl,hk,hgk⟩
            have hgk2 : ∀ X X' : Box,((Y.set (B.length + 2) X).set (B.length + 2) X' ++ C).getD (Y.length + k) .dead = .row 6 (sEs nw) 0:=fun X X'=>by rw [Abs.getD_append_right (by simp),List.length_set,List.length_set,show Y.length + k - Y.length = k by omega]; exact hgk
            simp only [zW,zX,zD,builtinA,isLeaf,const1,ustrA,simprocAttr,ti3,ti9,ti23,ti41,ti88,ti128,ca8,ca15,ca24,ca25,ca42,ca64,ca69,cf,Tryz.results63,hgk,hgk2,hk,Nat.add_assoc]
            exact ⟨outer_set A _ i _ (rd_closed _ _ _),nw,_,rfl,hnl,hno,by omega,by omega,rfl⟩
        · have e1 : decide ((out.length : Int) > 1) = false:=decide_eq_false (by omega)
          have e1' : decide ((1 : Int) < (out.length : Int)) = false:=decide_eq_false (by omega)
          simp only [zW,zX,zD,builtinA,isLeaf,const1,ustrA,simprocAttr,ti3,ti9,ti23,ti41,ti88,ti128,ca8,ca15,ca24,ca25,ca42,ca64,ca69,cf,Tryz.results63,hi,decide_eq_true k0,sEs_length,e1,e1']
          refine callO_intro (spec_l2Copy out (by omega) (fun x hx=>(hoo x hx).2) _) ?_
          rintro r A' ⟨C,k,rfl,rfl,hk,hgk⟩
          have hgk2 : (B ++ C).getD (B.length + k) .dead = .row 6 (sEs out) 0:=by rw [Abs.getD_append_right (by omega),show B.length + k - B.length = k by omega]; exact hgk
          simp only [zW,zX,zD,builtinA,isLeaf,const1,ustrA,simprocAttr,ti3,ti9,ti23,ti41,ti88,ti128,ca8,ca15,ca24,ca25,ca42,ca64,ca69,cf,Tryz.results63,hgk2,hk,Nat.add_assoc]
          exact ⟨outer_set A _ i _ (rd_closed _ _ _),out,_,rfl,hol,hom,by omega,by omega,rfl⟩
      · simp only [zW,zX,zD,builtinA,isLeaf,const1,ustrA,simprocAttr,ti3,ti9,ti23,ti41,ti88,ti128,ca8,ca15,ca24,ca25,ca42,ca64,ca69,cf,Tryz.results63,hi,decide_eq_false k0]
        refine callO_intro (spec_l2Copy out (by omega) (fun x hx=>(hoo x hx).2) _) ?_
        rintro r A' ⟨C,k,rfl,rfl,hk,hgk⟩
        have hgk2 : (B ++ C).getD (B.length + k) .dead = .row 6 (sEs out) 0:=by rw [Abs.getD_append_right (by omega),show B.length + k - B.length = k by omega]; exact hgk
        simp only [zW,zX,zD,builtinA,isLeaf,const1,ustrA,simprocAttr,ti3,ti9,ti23,ti41,ti88,ti128,ca8,ca15,ca24,ca25,ca42,ca64,ca69,cf,Tryz.results63,hgk2,hk,Nat.add_assoc]
        exact ⟨outer_set A _ i _ (rd_closed _ _ _),out,_,rfl,hol,hom,by omega,by omega,rfl⟩
theorem rs_small {s : List SigI} (hn : ∀ x ∈ s,SmX x) {mod : List UInt8} {o : Option (List VI)} (h : RdS s mod o) : (nrX o).length ≤ 8 ∧ ∀ x ∈ nrX o,SmX x:=by
  have h8:=(str_small hn h).1
  refine ⟨h8,?_⟩
  cases o with
  | none=>simp [nrX]
  | some zs =>
    obtain ⟨ys,h8,hr,hord,hmd,rfl⟩:=h
    intro x hx
    obtain ⟨y,hy,rfl⟩:=List.mem_map.1 hx
    obtain ⟨y0,hy0,rfl⟩:=List.mem_map.1 hy
    obtain ⟨i,hi,rfl⟩:=List.mem_iff_getElem.1 hy0
    have e : ys.getD i vi0 = ys[i]:=by simp [List.getD,hi]
    have h3:=str_ok hmd hr hi
    have h4:=hr.2 i (by rw [← hr.1]; exact hi)
    rw [e] at h3 h4
    refine ⟨?_,vi_sz h3⟩
    rw [siOf_name,viK_str,← siOf_name,← itemOf_si h4.2]
    exact (hn _ (si_mem (by rw [← hr.1]; exact hi))).1
set_option maxRecDepth 100000 in
set_option maxHeartbeats 4000000 in
theorem spec_l3Two (bs : List UInt8) (A : List Box) : ACalls Tryz.prog 37 [.aslice (byteRows bs)] A (fun r A'=>∃ s t,r = .tuple [.slice (sEs s),.slice (sEs t)] ∧ s.length ≤ 9 ∧ (∀ x ∈ s,SmX x) ∧ t.length ≤ 9 ∧ (∀ x ∈ t,SmX x) ∧ A' = A):=by
  refine acalls_enter (cf:=cf 48 [0,2,3,4,5,6,7,8,9,10,19,20,24,31,33,40]) foll Tryz.func37 Tryz.ntmps37 (by simp [cf]) ?_
  simp only [Tryz.f37,EnterK_some,zW,zX,zD,builtinA,isLeaf,const1,ustrA,simprocAttr,ti3,ca39,ca40,ca41,ca63,ca64,ca65,ca66,cf,Tryz.results37]
  refine callK_intro (by simp only [zW,zX,zD,builtinA,isLeaf,const1,ustrA,simprocAttr]; rfl) (spec_l17Open bs _) ?_ rfl
  rintro v A' ⟨bs',hb,rfl,rfl⟩
  simp only [zW,zX,zD,builtinA,isLeaf,const1,ustrA,simprocAttr,ti3,ca39,ca40,ca41,ca63,ca64,ca65,ca66,cf,Tryz.results37]
  refine callK_intro (by simp only [zW,zX,zD,builtinA,isLeaf,const1,ustrA,simprocAttr]; rfl) (spec_l2Draw bs' 0 A.length _ (by simp) (by simp [List.getD]) (by omega)) ?_ rfl
  rintro v A' ⟨s,p',rfl,hs,hsm,hp1,hp2,rfl⟩
  simp only [zW,zX,zD,builtinA,isLeaf,const1,ustrA,simprocAttr,ti3,ca39,ca40,ca41,ca63,ca64,ca65,ca66,cf,Tryz.results37]
  refine callK_intro (by simp only [zW,zX,zD,builtinA,isLeaf,const1,ustrA,simprocAttr]; rfl) (spec_l3Weak bs' p' s hs hsm A.length _ (by simp) (by simp [List.getD]) (by omega)) ?_ rfl
  rintro v A' ⟨t,p2,rfl,ht,htm,hq1,hq2,rfl⟩
  simp only [zW,zX,zD,builtinA,isLeaf,const1,ustrA,simprocAttr,ti3,ca39,ca40,ca41,ca63,ca64,ca65,ca66,cf,Tryz.results37]
  refine callK_intro (by simp only [zW,zX,zD,builtinA,isLeaf,const1,ustrA,simprocAttr]; rfl) (spec_pick bs' p2 6 A.length _ (by simp) (by simp [List.getD]) (by omega) (by omega)) ?_ rfl
  rintro v A' ⟨j1,rfl,h0,h1,rfl⟩
  have hso : ∀ x ∈ s,x.Ok ∧ sz x.typ ≤ 1048576:=fun x hx=>(hsm x hx).ok
  have fin : ∀ (a b : List SigI) (q : Nat),True:=fun _ _ _=>trivial
  by_cases k0 : j1 = 0
  · simp only [zW,zX,zD,builtinA,isLeaf,const1,ustrA,simprocAttr,ti3,ca39,ca40,ca41,ca63,ca64,ca65,ca66,cf,Tryz.results37,decide_eq_true k0]
    refine callK_intro (by simp only [zW,zX,zD,builtinA,isLeaf,const1,ustrA,simprocAttr]; rfl) (spec_l2Draw bs' (p2 + 1) A.length _ (by simp) (by simp [List.getD]) (by omega)) ?_ rfl
    rintro v A' ⟨u,p3,rfl,hu,hum,hr1,hr2,rfl⟩
    simp only [zW,zX,zD,builtinA,isLeaf,const1,ustrA,simprocAttr,ti3,ca39,ca40,ca41,ca63,ca64,ca65,ca66,cf,Tryz.results37]
    refine callK_intro (by simp only [zW,zX,zD,builtinA,isLeaf,const1,ustrA,simprocAttr]; rfl) (spec_l2Mutate bs' (p3) s (by omega) (fun x hx=>(hsm x hx).big) A.length _ (by simp) (by simp [List.getD]) (by omega)) ?_ rfl
    rintro v A' ⟨f1,p8,rfl,hf1,hf2,w1,w2,rfl⟩
    simp only [zW,zX,zD,builtinA,isLeaf,const1,ustrA,simprocAttr,ti3,ca39,ca40,ca41,ca63,ca64,ca65,ca66,cf,Tryz.results37]
    refine callK_intro (by simp only [zW,zX,zD,builtinA,isLeaf,const1,ustrA,simprocAttr]; rfl) (spec_l2Mutate bs' p8 u (by omega) (fun x hx=>(hum x hx).big) A.length _ (by simp) (by simp [List.getD]) (by omega)) ?_ rfl
    rintro v A' ⟨f2,p9,rfl,hf3,hf4,w3,w4,rfl⟩
    simp only [zW,zX,zD,builtinA,isLeaf,const1,ustrA,simprocAttr,ti3,ca39,ca40,ca41,ca63,ca64,ca65,ca66,cf,Tryz.results37]
    exact ⟨_,_,rfl,hf1,hf2,hf3,hf4⟩
  · by_cases k1 : j1 = 1
    · simp only [zW,zX,zD,builtinA,isLeaf,const1,ustrA,simprocAttr,ti3,ca39,ca40,ca41,ca63,ca64,ca65,ca66,cf,Tryz.results37,decide_eq_false k0,decide_eq_true k1]
      refine callO_intro (spec_NormalSig s (by omega) hso _) ?_
      rintro r A' ⟨o,ho,rfl,rfl⟩
      have hsn:=nr_small (fun x hx=>(hsm x hx).1) ho
      cases o with
      | none =>
        simp only [nrR,sgN]
        simp only [zW,zX,zD,builtinA,isLeaf,const1,ustrA,simprocAttr,ti3,ca39,ca40,ca41,ca63,ca64,ca65,ca66,cf,Tryz.results37]
        refine callK_intro (by simp only [zW,zX,zD,builtinA,isLeaf,const1,ustrA,simprocAttr]; rfl) (spec_l2Mutate bs' (p2 + 1) s (by omega) (fun x hx=>(hsm x hx).big) A.length _ (by simp) (by simp [List.getD]) (by omega)) ?_ rfl
        rintro v A' ⟨f1,p8,rfl,hf1,hf2,w1,w2,rfl⟩
        simp only [zW,zX,zD,builtinA,isLeaf,const1,ustrA,simprocAttr,ti3,ca39,ca40,ca41,ca63,ca64,ca65,ca66,cf,Tryz.results37]
        refine callK_intro (by simp only [zW,zX,zD,builtinA,isLeaf,const1,ustrA,simprocAttr]; rfl) (spec_l2Mutate bs' p8 t (by omega) (fun x hx=>(htm x hx).big) A.length _ (by simp) (by simp [List.getD]) (by omega)) ?_ rfl
        rintro v A' ⟨f2,p9,rfl,hf3,hf4,w3,w4,rfl⟩
        simp only [zW,zX,zD,builtinA,isLeaf,const1,ustrA,simprocAttr,ti3,ca39,ca40,ca41,ca63,ca64,ca65,ca66,cf,Tryz.results37]
        exact ⟨_,_,rfl,hf1,hf2,hf3,hf4⟩
      | some zs =>
        simp only [nrR,sgR]
        simp only [nrX] at hsn
        simp only [zW,zX,zD,builtinA,isLeaf,const1,ustrA,simprocAttr,ti3,ca39,ca40,ca41,ca63,ca64,ca65,ca66,cf,Tryz.results37]
        refine callK_intro (by simp only [zW,zX,zD,builtinA,isLeaf,const1,ustrA,simprocAttr]; rfl) (spec_l2Mutate bs' (p2 + 1) (zs.map siOf) (by omega) hsn.2 A.length _ (by simp) (by simp [List.getD]) (by omega)) ?_ rfl
        rintro v A' ⟨f1,p8,rfl,hf1,hf2,w1,w2,rfl⟩
        simp only [zW,zX,zD,builtinA,isLeaf,const1,ustrA,simprocAttr,ti3,ca39,ca40,ca41,ca63,ca64,ca65,ca66,cf,Tryz.results37]
        refine callK_intro (by simp only [zW,zX,zD,builtinA,isLeaf,const1,ustrA,simprocAttr]; rfl) (spec_l2Mutate bs' p8 t (by omega) (fun x hx=>(htm x hx).big) A.length _ (by simp) (by simp [List.getD]) (by omega)) ?_ rfl
        rintro v A' ⟨f2,p9,rfl,hf3,hf4,w3,w4,rfl⟩
        simp only [zW,zX,zD,builtinA,isLeaf,const1,ustrA,simprocAttr,ti3,ca39,ca40,ca41,ca63,ca64,ca65,ca66,cf,Tryz.results37]
        exact ⟨_,_,rfl,hf1,hf2,hf3,hf4⟩
    · by_cases k2 : j1 = 2
      · simp only [zW,zX,zD,builtinA,isLeaf,const1,ustrA,simprocAttr,ti3,ca39,ca40,ca41,ca63,ca64,ca65,ca66,cf,Tryz.results37,decide_eq_false k0,decide_eq_false k1,decide_eq_true k2]
        refine callO_intro (spec_StrengthenSig s (by omega) hso [65] _) ?_
        rintro r A' ⟨o,ho,rfl,rfl⟩
        have hsn:=rs_small (fun x hx=>(hsm x hx).big) ho
        cases o with
        | none =>
          simp only [nrR,sgN]
          simp only [zW,zX,zD,builtinA,isLeaf,const1,ustrA,simprocAttr,ti3,ca39,ca40,ca41,ca63,ca64,ca65,ca66,cf,Tryz.results37]
          refine callK_intro (by simp only [zW,zX,zD,builtinA,isLeaf,const1,ustrA,simprocAttr]; rfl) (spec_l2Mutate bs' (p2 + 1) s (by omega) (fun x hx=>(hsm x hx).big) A.length _ (by simp) (by simp [List.getD]) (by omega)) ?_ rfl
          rintro v A' ⟨f1,p8,rfl,hf1,hf2,w1,w2,rfl⟩
          simp only [zW,zX,zD,builtinA,isLeaf,const1,ustrA,simprocAttr,ti3,ca39,ca40,ca41,ca63,ca64,ca65,ca66,cf,Tryz.results37]
          refine callK_intro (by simp only [zW,zX,zD,builtinA,isLeaf,const1,ustrA,simprocAttr]; rfl) (spec_l2Mutate bs' p8 t (by omega) (fun x hx=>(htm x hx).big) A.length _ (by simp) (by simp [List.getD]) (by omega)) ?_ rfl
          rintro v A' ⟨f2,p9,rfl,hf3,hf4,w3,w4,rfl⟩
          simp only [zW,zX,zD,builtinA,isLeaf,const1,ustrA,simprocAttr,ti3,ca39,ca40,ca41,ca63,ca64,ca65,ca66,cf,Tryz.results37]
          exact ⟨_,_,rfl,hf1,hf2,hf3,hf4⟩
        | some zs =>
          simp only [nrR,sgR]
          simp only [nrX] at hsn
          simp only [zW,zX,zD,builtinA,isLeaf,const1,ustrA,simprocAttr,ti3,ca39,ca40,ca41,ca63,ca64,ca65,ca66,cf,Tryz.results37]
          refine callK_intro (by simp only [zW,zX,zD,builtinA,isLeaf,const1,ustrA,simprocAttr]; rfl) (spec_l2Mutate bs' (p2 + 1) (zs.map siOf) (by omega) hsn.2 A.length _ (by simp) (by simp [List.getD]) (by omega)) ?_ rfl
          rintro v A' ⟨f1,p8,rfl,hf1,hf2,w1,w2,rfl⟩
          simp only [zW,zX,zD,builtinA,isLeaf,const1,ustrA,simprocAttr,ti3,ca39,ca40,ca41,ca63,ca64,ca65,ca66,cf,Tryz.results37]
          refine callK_intro (by simp only [zW,zX,zD,builtinA,isLeaf,const1,ustrA,simprocAttr]; rfl) (spec_l2Mutate bs' p8 t (by omega) (fun x hx=>(htm x hx).big) A.length _ (by simp) (by simp [List.getD]) (by omega)) ?_ rfl
          rintro v A' ⟨f2,p9,rfl,hf3,hf4,w3,w4,rfl⟩
          simp only [zW,zX,zD,builtinA,isLeaf,const1,ustrA,simprocAttr,ti3,ca39,ca40,ca41,ca63,ca64,ca65,ca66,cf,Tryz.results37]
          exact ⟨_,_,rfl,hf1,hf2,hf3,hf4⟩
      · simp only [zW,zX,zD,builtinA,isLeaf,const1,ustrA,simprocAttr,ti3,ca39,ca40,ca41,ca63,ca64,ca65,ca66,cf,Tryz.results37,decide_eq_false k0,decide_eq_false k1,decide_eq_false k2]
        refine callK_intro (by simp only [zW,zX,zD,builtinA,isLeaf,const1,ustrA,simprocAttr]; rfl) (spec_l2Mutate bs' (p2 + 1) s (by omega) (fun x hx=>(hsm x hx).big) A.length _ (by simp) (by simp [List.getD]) (by omega)) ?_ rfl
        rintro v A' ⟨f1,p8,rfl,hf1,hf2,w1,w2,rfl⟩
        simp only [zW,zX,zD,builtinA,isLeaf,const1,ustrA,simprocAttr,ti3,ca39,ca40,ca41,ca63,ca64,ca65,ca66,cf,Tryz.results37]
        refine callK_intro (by simp only [zW,zX,zD,builtinA,isLeaf,const1,ustrA,simprocAttr]; rfl) (spec_l2Mutate bs' p8 t (by omega) (fun x hx=>(htm x hx).big) A.length _ (by simp) (by simp [List.getD]) (by omega)) ?_ rfl
        rintro v A' ⟨f2,p9,rfl,hf3,hf4,w3,w4,rfl⟩
        simp only [zW,zX,zD,builtinA,isLeaf,const1,ustrA,simprocAttr,ti3,ca39,ca40,ca41,ca63,ca64,ca65,ca66,cf,Tryz.results37]
        exact ⟨_,_,rfl,hf1,hf2,hf3,hf4⟩
theorem spec_DrawMatchSig (bs : List UInt8) (A : List Box) : ACalls Tryz.prog 18 [.aslice (byteRows bs)] A (fun r A'=>∃ s t,r = .tuple [.slice (sEs s),.slice (sEs t)] ∧ s.length ≤ 9 ∧ (∀ x ∈ s,SmX x) ∧ t.length ≤ 9 ∧ (∀ x ∈ t,SmX x) ∧ A' = A):=by
  refine acalls_enter (cf:=cf 8 [0,2,3]) foll Tryz.func18 Tryz.ntmps18 (by simp [cf]) ?_
  simp only [Tryz.f18,EnterK_some,zW,zX,zD,builtinA,isLeaf,const1,ustrA,simprocAttr,ca37,cf,Tryz.results18]
  refine callK_intro (by simp only [zW,zX,zD,builtinA,isLeaf,const1,ustrA,simprocAttr]; rfl) (spec_l3Two bs _) ?_ rfl
  rintro v A' ⟨s,t,rfl,h1,h2,h3,h4,rfl⟩
  simp only [zW,zX,zD,builtinA,isLeaf,const1,ustrA,simprocAttr,ca37,cf,Tryz.results18]
  exact ⟨_,_,rfl,h1,h2,h3,h4⟩
end Go.Proofs.YtejbjgmgdbcddaaGreatDoor
/- What the row's condition on the library's one laid variable gives a walk, and a world that meets it. -/
set_option linter.unusedVariables false
set_option linter.unusedSimpArgs false
namespace Go.Proofs.YtejbjgmgdbcddaaGreatDoor
open Go.Abs Go.RowKit Go.ChangeShapes Go.WideShapes
abbrev laidL : List (String × DataW Unit):=[("errors.errorType", Rows.laid_errors_errorType)]
theorem laid_et : Tryz.prog.globalNamed "errors.errorType" = some 0:=by kernel_rfl
theorem laid_rt : (Tryz.prog.cutTypes.find? (·.1 == "internal/reflectlite.rtype")).map (·.2) = some 150:=by kernel_rfl
theorem laid_one : ((List.range 242).filter fun t=>Tryz.prog.rowNamed t [101,114,114,111,114]) = [78]:=by kernel_rfl
theorem laid_size : Tryz.prog.types.size = 242:=by kernel_rfl
theorem gv_of_laid {W : World} (h : laidMetH Tryz.prog laidL W) : GV W W.heap.size:=by
  have h' : laidMet Tryz.prog [] W ∧ handlesMet Tryz.prog laidL W:=h
  obtain ⟨name,u,ty,e1,e2,e3,e4,e5⟩:=h'.2 _ (List.mem_singleton.2 rfl)
  have en : name = [101,114,114,111,114]:=(Option.some.inj e1).symm
  subst en
  obtain rfl:=Option.some.inj (laid_rt.symm.trans e2)
  have hm : ty ∈ (List.range 242).filter fun t=>Tryz.prog.rowNamed t [101,114,114,111,114]:=List.mem_filter.2 ⟨List.mem_range.2 (by rw [← laid_size]; exact e3),e4⟩
  rw [laid_one] at hm
  obtain rfl:=List.mem_singleton.1 hm
  have hh : typeHandle Tryz.prog 78 = .pointer (some ⟨1,78,none⟩):=by kernel_rfl
  rw [hh] at e5
  have hc:=World.var?_cell laid_et e5 0
  intro v hv
  cases hv
  have hc2 : W.cell? ⟨0,0,none⟩ = some (.iface 150 (.agg #[.pointer (some ⟨1,78,none⟩)])):=by simpa using hc
  refine ⟨?_,hc2⟩
  rcases Nat.eq_zero_or_pos W.heap.size with h0 | h0
  · simp [World.cell?,h0] at hc2
  · exact h0
noncomputable def laidWorld (os : Os) : World :=
  let w0:=World.holding Tryz.prog os ⟨#[],#[],[]⟩
  { w0 with heap:=w0.heap.modify 0 fun
      | .cells _ t frozen=>.cells #[.iface 150 (.agg #[.pointer (some ⟨1,78,none⟩)])] t frozen
      | o=>o }
theorem laidWorld_met (os : Os) (args : Array Value) : laidMetH Tryz.prog laidL ((laidWorld os).forCall (fun _ _=>0) ⟨#[],args,[]⟩).memory :=
  laidMetH_of_parts (laidMet_nil _ _) (by kernel_rfl)
end Go.Proofs.YtejbjgmgdbcddaaGreatDoor
