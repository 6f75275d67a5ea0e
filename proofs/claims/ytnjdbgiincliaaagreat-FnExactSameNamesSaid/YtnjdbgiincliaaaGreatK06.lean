/- ZeroU, Nams. -/
import Derived.Test.YtnjdbgiincliaaaGreatK05
import Derived.Test.YtnjdbgiincliaaaGreatAbsW3
/- The program's comparison of a unit with the zero unit. -/
set_option linter.unusedVariables false
set_option linter.unusedSimpArgs false
namespace Go.Proofs.YtnjdbgiincliaaaGreat
open Go.Abs
def noU (u : UnI) : Bool:=((decide (u.name = []) && decide (u.params.length = 0)) && decide (u.body.length = 0)) && decide (u.face.length = 0)
def cv0 (it is bt ix ik ip : Nat) : List AV:=[tcF1,tcF2,.map it,.map is,tcF1,tcF2,.map it,xcF1,xcF2 bt,.map ix,.map ik,.map ip]
set_option maxRecDepth 100000 in
theorem joinP_none (m : AV) (A : List Box) : ACalls Tryz.prog 317 [m,.slice [],.slice []] A (fun r A'=>r = .bool false ∧ A' = A):=by
  refine acalls_enter (cf:=cf 32 [0,1,2,6,7,8,11,28]) foll Tryz.func317 Tryz.ntmps317 (by simp [cf]) ?_
  simp only [Tryz.f317,EnterK_some,zW,zX,zD,builtinA,isLeaf,const1,ustrA,simprocAttr,ti3,ti77,ti194,ti394,ti475,ca328,mi394,ks475,cf,Tryz.results317]
set_option maxRecDepth 100000 in
theorem joinK_none (m : AV) (A : List Box) : ACalls Tryz.prog 329 [m,.slice [],.slice []] A (fun r A'=>r = .bool false ∧ A' = A):=by
  refine acalls_enter (cf:=cf 32 [0,1,2,6,7,8,11,28]) foll Tryz.func329 Tryz.ntmps329 (by simp [cf]) ?_
  simp only [Tryz.f329,EnterK_some,zW,zX,zD,builtinA,isLeaf,const1,ustrA,simprocAttr,ti3,ti78,ti304,ti390,ti483,ca332,mi390,ks483,cf,Tryz.results329]
set_option maxRecDepth 100000 in
theorem joinS_none (m : AV) (A : List Box) : ACalls Tryz.prog 257 [m,.slice [],.slice []] A (fun r A'=>r = .bool false ∧ A' = A):=by
  refine acalls_enter (cf:=cf 32 [0,1,2,6,7,8,11,28]) foll Tryz.func257 Tryz.ntmps257 (by simp [cf]) ?_
  simp only [Tryz.f257,EnterK_some,zW,zX,zD,builtinA,isLeaf,const1,ustrA,simprocAttr,ti3,ti50,ti69,ti169,ti415,ca289,mi169,ks415,cf,Tryz.results257]
set_option maxRecDepth 100000 in
theorem sameP_none (m : Nat) (f : AV) (l : List ImI) (A : List Box) : ACalls Tryz.prog 299 [.map m,.slice (pEs l),.slice [],f] A (fun r A'=>r = .bool (decide (l.length = 0)) ∧ A' = A):=by
  cases l with
  | nil =>
    have h0 : decide (((0 : Nat) : Int) = ((0 : Nat) : Int)) = true:=rfl
    have e : pEs [] = []:=rfl
    rw [e]
    refine acalls_enter (cf:=cf 27 [0,1,2,3,8]) foll Tryz.func299 Tryz.ntmps299 (by simp [cf]) ?_
    simp only [Tryz.f299,EnterK_some,zW,zX,zD,builtinA,isLeaf,const1,ustrA,simprocAttr,ti3,ti77,ti194,ca317,ca318,cf,Tryz.results299]
    refine callK_intro (by simp only [zW,zX,zD,builtinA,isLeaf,const1,ustrA,simprocAttr,Option.map_some]; rfl) (joinP_none (.map m) _) ?_ rfl; rintro v A' ⟨rfl,rfl⟩
    simp only [zW,zX,zD,builtinA,isLeaf,const1,ustrA,simprocAttr,ti3,ti77,ti194,ca317,ca318,cf,Tryz.results299]
  | cons x l =>
    have h0 : decide (((l.length + 1 : Nat) : Int) = 0) = false:=by simp; omega
    have h1 : decide ((x :: l).length = 0) = false:=by simp
    rw [h1]
    refine acalls_enter (cf:=cf 27 [0,1,2,3,8]) foll Tryz.func299 Tryz.ntmps299 (by simp [cf]) ?_
    simp only [Tryz.f299,EnterK_some,zW,zX,zD,builtinA,isLeaf,const1,ustrA,simprocAttr,ti3,ti77,ti194,ca317,ca318,cf,Tryz.results299]
    simp only [zW,zX,zD,builtinA,isLeaf,const1,ustrA,simprocAttr,ti3,ti77,ti194,ca317,ca318,cf,Tryz.results299,pEs_length,h0]
set_option maxRecDepth 100000 in
theorem sameK_none (m : Nat) (f : AV) (l : List ItI) (A : List Box) : ACalls Tryz.prog 319 [.map m,.slice (iEs l),.slice [],f] A (fun r A'=>r = .bool (decide (l.length = 0)) ∧ A' = A):=by
  cases l with
  | nil =>
    have h0 : decide (((0 : Nat) : Int) = ((0 : Nat) : Int)) = true:=rfl
    have e : iEs [] = []:=rfl
    rw [e]
    refine acalls_enter (cf:=cf 27 [0,1,2,3,8]) foll Tryz.func319 Tryz.ntmps319 (by simp [cf]) ?_
    simp only [Tryz.f319,EnterK_some,zW,zX,zD,builtinA,isLeaf,const1,ustrA,simprocAttr,ti3,ti78,ti304,ca329,ca330,cf,Tryz.results319]
    refine callK_intro (by simp only [zW,zX,zD,builtinA,isLeaf,const1,ustrA,simprocAttr,Option.map_some]; rfl) (joinK_none (.map m) _) ?_ rfl; rintro v A' ⟨rfl,rfl⟩
    simp only [zW,zX,zD,builtinA,isLeaf,const1,ustrA,simprocAttr,ti3,ti78,ti304,ca329,ca330,cf,Tryz.results319]
  | cons x l =>
    have h0 : decide (((l.length + 1 : Nat) : Int) = 0) = false:=by simp; omega
    have h1 : decide ((x :: l).length = 0) = false:=by simp
    rw [h1]
    refine acalls_enter (cf:=cf 27 [0,1,2,3,8]) foll Tryz.func319 Tryz.ntmps319 (by simp [cf]) ?_
    simp only [Tryz.f319,EnterK_some,zW,zX,zD,builtinA,isLeaf,const1,ustrA,simprocAttr,ti3,ti78,ti304,ca329,ca330,cf,Tryz.results319]
    simp only [zW,zX,zD,builtinA,isLeaf,const1,ustrA,simprocAttr,ti3,ti78,ti304,ca329,ca330,cf,Tryz.results319,iEs_length,h0]
set_option maxRecDepth 100000 in
theorem sameS_none (m : Nat) (f : AV) (l : List SigI) (A : List Box) : ACalls Tryz.prog 195 [.map m,.slice (sEs l),.slice [],f] A (fun r A'=>r = .bool (decide (l.length = 0)) ∧ A' = A):=by
  cases l with
  | nil =>
    have h0 : decide (((0 : Nat) : Int) = ((0 : Nat) : Int)) = true:=rfl
    have e : sEs [] = []:=rfl
    rw [e]
    refine acalls_enter (cf:=cf 27 [0,1,2,3,8]) foll Tryz.func195 Tryz.ntmps195 (by simp [cf]) ?_
    simp only [Tryz.f195,EnterK_some,zW,zX,zD,builtinA,isLeaf,const1,ustrA,simprocAttr,ti3,ti50,ti69,ca257,ca258,cf,Tryz.results195]
    refine callK_intro (by simp only [zW,zX,zD,builtinA,isLeaf,const1,ustrA,simprocAttr,Option.map_some]; rfl) (joinS_none (.map m) _) ?_ rfl; rintro v A' ⟨rfl,rfl⟩
    simp only [zW,zX,zD,builtinA,isLeaf,const1,ustrA,simprocAttr,ti3,ti50,ti69,ca257,ca258,cf,Tryz.results195]
  | cons x l =>
    have h0 : decide (((l.length + 1 : Nat) : Int) = 0) = false:=by simp; omega
    have h1 : decide ((x :: l).length = 0) = false:=by simp
    rw [h1]
    refine acalls_enter (cf:=cf 27 [0,1,2,3,8]) foll Tryz.func195 Tryz.ntmps195 (by simp [cf]) ?_
    simp only [Tryz.f195,EnterK_some,zW,zX,zD,builtinA,isLeaf,const1,ustrA,simprocAttr,ti3,ti50,ti69,ca257,ca258,cf,Tryz.results195]
    simp only [zW,zX,zD,builtinA,isLeaf,const1,ustrA,simprocAttr,ti3,ti50,ti69,ca257,ca258,cf,Tryz.results195,sEs_length,h0]
set_option maxRecDepth 100000 in
theorem cmpS_none (m1 m2 : Nat) (l : List SigI) (A : List Box) : ACalls Tryz.prog 109 [.agg [tcF1,tcF2,.map m1,.map m2],.slice (sEs l),.slice []] A (fun r A'=>r = .bool (decide (l.length = 0)) ∧ A' = A):=by
  have hs:=fun m f A=>sameS_none m f l A
  simp only [tcF1,tcF2]
  refine acalls_enter (cf:=cf 13 [0,1,2,3,6]) foll Tryz.func109 Tryz.ntmps109 (by simp [cf]) ?_
  simp only [Tryz.f109,EnterK_some,zW,zX,zD,builtinA,isLeaf,const1,ustrA,simprocAttr,ti169,ti171,ca195,cf,Tryz.results109]
  refine callO_intro (hs _ _ _) ?_
  rintro r A' ⟨rfl,rfl⟩
  simp only [zW,zX,zD,builtinA,isLeaf,const1,ustrA,simprocAttr,ti169,ti171,ca195,cf,Tryz.results109]
set_option maxRecDepth 100000 in
theorem cmpK_none (m1 b m2 m3 : Nat) (l : List ItI) (A : List Box) : ACalls Tryz.prog 301 [.agg [tcF1,tcF2,.map m1,xcF1,xcF2 b,.map m2,.map m3],.slice (iEs l),.slice []] A (fun r A'=>r = .bool (decide (l.length = 0)) ∧ A' = A):=by
  have hs:=fun m f A=>sameK_none m f l A
  simp only [tcF1,tcF2,xcF1,xcF2]
  refine acalls_enter (cf:=cf 13 [0,1,2,3,6]) foll Tryz.func301 Tryz.ntmps301 (by simp [cf]) ?_
  simp only [Tryz.f301,EnterK_some,zW,zX,zD,builtinA,isLeaf,const1,ustrA,simprocAttr,ti390,ti392,ca319,cf,Tryz.results301]
  refine callO_intro (hs _ _ _) ?_
  rintro r A' ⟨rfl,rfl⟩
  simp only [zW,zX,zD,builtinA,isLeaf,const1,ustrA,simprocAttr,ti390,ti392,ca319,cf,Tryz.results301]
set_option maxRecDepth 100000 in
theorem cmpU_none (it is bt ix ik ip : Nat) (u : UnI) (A : List Box) : ACalls Tryz.prog 274 [.agg (cv0 it is bt ix ik ip),.agg (uE u),.agg [.str [],.slice [],.slice [],.slice []]] A (fun r A'=>r = .bool (noU u) ∧ A' = A):=by
  have hp:=fun m f A=>sameP_none m f u.params A
  have hk:=fun A=>cmpK_none it bt ix ik u.body A
  have hs:=fun A=>cmpS_none it is u.face A
  rw [cv0,uE,noU]
  simp only [tcF1,tcF2,xcF1,xcF2] at hk hs ⊢
  by_cases h1 : u.name = []
  · rw [decide_eq_true h1,Bool.true_and]
    refine acalls_enter (cf:=cf 41 [0,1,2,3,4,5,6]) foll Tryz.func274 Tryz.ntmps274 (by simp [cf]) ?_
    simp only [Tryz.f274,EnterK_some,zW,zX,zD,builtinA,isLeaf,const1,ustrA,simprocAttr,ti9,ti50,ti69,ti77,ti78,ti80,ti171,ti194,ti304,ti392,ti394,ti396,ca109,ca299,ca301,cf,Tryz.results274]
    simp only [zW,zX,zD,builtinA,isLeaf,const1,ustrA,simprocAttr,ti9,ti50,ti69,ti77,ti78,ti80,ti171,ti194,ti304,ti392,ti394,ti396,ca109,ca299,ca301,cf,Tryz.results274,decide_eq_true h1]
    refine callO_intro (hp _ _ _) ?_
    rintro r A' ⟨rfl,rfl⟩
    cases decide (u.params.length = 0) with
    | false=>simp only [zW,zX,zD,builtinA,isLeaf,const1,ustrA,simprocAttr,ti9,ti50,ti69,ti77,ti78,ti80,ti171,ti194,ti304,ti392,ti394,ti396,ca109,ca299,ca301,cf,Tryz.results274]
    | true =>
      simp only [zW,zX,zD,builtinA,isLeaf,const1,ustrA,simprocAttr,ti9,ti50,ti69,ti77,ti78,ti80,ti171,ti194,ti304,ti392,ti394,ti396,ca109,ca299,ca301,cf,Tryz.results274]
      refine callO_intro (hk _) ?_
      rintro r A' ⟨rfl,rfl⟩
      cases decide (u.body.length = 0) with
      | false=>simp only [zW,zX,zD,builtinA,isLeaf,const1,ustrA,simprocAttr,ti9,ti50,ti69,ti77,ti78,ti80,ti171,ti194,ti304,ti392,ti394,ti396,ca109,ca299,ca301,cf,Tryz.results274]
      | true =>
        simp only [zW,zX,zD,builtinA,isLeaf,const1,ustrA,simprocAttr,ti9,ti50,ti69,ti77,ti78,ti80,ti171,ti194,ti304,ti392,ti394,ti396,ca109,ca299,ca301,cf,Tryz.results274]
        refine callO_intro (hs _) ?_
        rintro r A' ⟨rfl,rfl⟩
        simp only [zW,zX,zD,builtinA,isLeaf,const1,ustrA,simprocAttr,ti9,ti50,ti69,ti77,ti78,ti80,ti171,ti194,ti304,ti392,ti394,ti396,ca109,ca299,ca301,cf,Tryz.results274]
  · rw [decide_eq_false h1]
    refine acalls_enter (cf:=cf 41 [0,1,2,3,4,5,6]) foll Tryz.func274 Tryz.ntmps274 (by simp [cf]) ?_
    simp only [Tryz.f274,EnterK_some,zW,zX,zD,builtinA,isLeaf,const1,ustrA,simprocAttr,ti9,ti50,ti69,ti77,ti78,ti80,ti171,ti194,ti304,ti392,ti394,ti396,ca109,ca299,ca301,cf,Tryz.results274]
    simp only [zW,zX,zD,builtinA,isLeaf,const1,ustrA,simprocAttr,ti9,ti50,ti69,ti77,ti78,ti80,ti171,ti194,ti304,ti392,ti394,ti396,ca109,ca299,ca301,cf,Tryz.results274,decide_eq_false h1]
def IB0 (i : Nat) (X : Box) (j : Nat) (Y : Box) (A : List Box) : Prop:=IBox i X A ∧ IBox j Y A
set_option maxRecDepth 100000 in
theorem sc0_new (it : Nat) (A : List Box) : ACalls Tryz.prog 107 [.agg [tcF1,tcF2,.map it]] A (fun r A'=>∃ is B,r = .agg [tcF1,tcF2,.map it,.map is] ∧ A' = A ++ B):=by
  simp only [tcF1,tcF2]
  refine acalls_enterK (cf:=cf 6 [0,1,2]) foll Tryz.func107 Tryz.ntmps107 (by simp [cf]) ?_
  simp only [Tryz.f107,EnterK_some,zW,zX,zD,builtinA,isLeaf,const1,ustrA,simprocAttr,ti167,ti169,ti171,cf,Tryz.results107]
  exact ⟨_,_,rfl,rfl⟩
set_option maxRecDepth 100000 in
theorem sn0_new (it : Nat) (A : List Box) : ACalls Tryz.prog 298 [.agg [tcF1,tcF2,.map it]] A (fun r A'=>∃ bt ix ik B,r = .agg [tcF1,tcF2,.map it,xcF1,xcF2 bt,.map ix,.map ik] ∧ A' = A ++ B):=by
  have hxc:=fun B=>impl_exprComparison it B
  simp only [tcF1,tcF2,xcF1,xcF2] at hxc ⊢
  refine acalls_enterK (cf:=cf 8 [0,1,2]) foll Tryz.func298 Tryz.ntmps298 (by simp [cf]) ?_
  simp only [Tryz.f298,EnterK_some,zW,zX,zD,builtinA,isLeaf,const1,ustrA,simprocAttr,ti167,ti390,ti392,ca153,cf,Tryz.results298]
  refine .inr (drawI_intro (.pur 0 (.pur 1 (.or 2 (.or 3 (.pur 4 (.or 5 .done .stop)) .stop) (.or 3 (.or 2 (.pur 4 (.or 5 .done .stop)) .stop) .stop)))) (IBox A.length (.cells [.func (.func 193) [] [],.func (.func 194) [] [],.map it])) (by kernel_rfl) ?_ ?_)
  · exact ⟨by simp,by simp⟩
  refine wpI_pur_intro (v:=?_) _ rfl rfl (by decide) rfl (fun A' hI=>?_) ?_
  rotate_left
  · simp only [zW,zX,zD,builtinA,isLeaf,const1,ustrA,simprocAttr,ti167,ti390,ti392,ca153,cf,Tryz.results298,hI.1,hI.2]
    first | exact ⟨rfl,rfl⟩ | exact rfl
  refine wpI_pur_intro (v:=?_) _ rfl rfl (by decide) rfl (fun A' hI=>?_) ?_
  rotate_left
  · simp only [zW,zX,zD,builtinA,isLeaf,const1,ustrA,simprocAttr,ti167,ti390,ti392,ca153,cf,Tryz.results298,hI.1,hI.2]
    first | exact ⟨rfl,rfl⟩ | exact rfl
  simp only [zW,zX,zD,builtinA,isLeaf,const1,ustrA,simprocAttr,ti167,ti390,ti392,ca153,cf,Tryz.results298,wpI_or_eq,wpI_stop_eq,wpI_done_eq]
  refine ⟨?_,⟨by simp,by simp⟩,?_⟩
  · refine callK_intro (by simp only [zW,zX,zD,builtinA,isLeaf,const1,ustrA,simprocAttr]; rfl) (hxc _) ?_ rfl
    rintro r A' ⟨rfl,rfl⟩
    simp only [zW,zX,zD,builtinA,isLeaf,const1,ustrA,simprocAttr,ti167,ti390,ti392,ca153,cf,Tryz.results298,wpI_or_eq,wpI_stop_eq,wpI_done_eq]
    refine ⟨⟨by simp,by simp⟩,⟨by simp,by simp⟩,?_⟩
    refine wpI_pur_intro (v:=?_) _ rfl rfl (by decide) rfl (fun A' hI=>?_) ?_
    rotate_left
    · simp only [zW,zX,zD,builtinA,isLeaf,const1,ustrA,simprocAttr,ti167,ti390,ti392,ca153,cf,Tryz.results298,hI.1,hI.2]
      first | exact ⟨rfl,rfl⟩ | exact rfl
    simp only [zW,zX,zD,builtinA,isLeaf,const1,ustrA,simprocAttr,ti167,ti390,ti392,ca153,cf,Tryz.results298,wpI_or_eq,wpI_stop_eq,wpI_done_eq]
    exact ⟨⟨by simp,by simp⟩,_,_,_,_,rfl,rfl⟩
  · refine callK_intro (by simp only [zW,zX,zD,builtinA,isLeaf,const1,ustrA,simprocAttr]; rfl) (hxc _) ?_ rfl
    rintro r A' ⟨rfl,rfl⟩
    simp only [zW,zX,zD,builtinA,isLeaf,const1,ustrA,simprocAttr,ti167,ti390,ti392,ca153,cf,Tryz.results298,wpI_or_eq,wpI_stop_eq,wpI_done_eq]
    refine ⟨⟨by simp,by simp⟩,?_⟩
    refine wpI_pur_intro (v:=?_) _ rfl rfl (by decide) rfl (fun A' hI=>?_) ?_
    rotate_left
    · simp only [zW,zX,zD,builtinA,isLeaf,const1,ustrA,simprocAttr,ti167,ti390,ti392,ca153,cf,Tryz.results298,hI.1,hI.2]
      first | exact ⟨rfl,rfl⟩ | exact rfl
    simp only [zW,zX,zD,builtinA,isLeaf,const1,ustrA,simprocAttr,ti167,ti390,ti392,ca153,cf,Tryz.results298,wpI_or_eq,wpI_stop_eq,wpI_done_eq]
    exact ⟨⟨by simp,by simp⟩,_,_,_,_,rfl,rfl⟩
def UB (A : List Box) (X : Box) (H : List Box) : Prop:=IBox (A.length + 1 + 1 + 1) X H ∧ IBox A.length (.cells [.nilf,.nilf,.nilm,.nilm,.nilf,.nilf,.nilm,.nilf,.nilf,.nilm,.nilm,.nilm]) H ∧ ∃ C,H = A ++ C
theorem UB.app {A : List Box} {X : Box} {H : List Box} (h : UB A X H) (L : List Box) : UB A X (H ++ L):=by
  obtain ⟨h1,h2,C,rfl⟩:=h
  exact ⟨h1.app L,h2.app L,C ++ L,List.append_assoc _ _ _⟩
theorem UB.self {A : List Box} {X : Box} {H : List Box} (h : UB A X H) (Y : Box) : (H.set A.length Y).getD A.length .dead = Y:=Abs.getD_set_self h.2.1.2
theorem UB.fin {A : List Box} {X : Box} {H : List Box} (h : UB A X H) (Y : Box) : ∃ B,H.set A.length Y = A ++ B:=by
  obtain ⟨_,_,C,rfl⟩:=h
  exact ⟨C.set 0 Y,by rw [List.set_append_right _ _ (Nat.le_refl _),Nat.sub_self]⟩
set_option maxRecDepth 100000 in
theorem uc0_new (A : List Box) : ACalls Tryz.prog 273 [] A (fun r A'=>∃ it is bt ix ik ip B,r = .agg (cv0 it is bt ix ik ip) ∧ A' = A ++ B):=by
  have hsc:=fun it B=>sc0_new it B
  have hsn:=fun it B=>sn0_new it B
  have htc:=fun B=>impl_typeComparison B
  simp only [tcF1,tcF2,xcF1,xcF2,cv0] at hsc hsn htc ⊢
  refine acalls_enterK (cf:=cf 9 [0,1]) foll Tryz.func273 Tryz.ntmps273 (by simp [cf]) ?_
  simp only [Tryz.f273,EnterK_some,zW,zX,zD,builtinA,isLeaf,const1,ustrA,simprocAttr,ti167,ti394,ti396,ca107,ca108,ca298,cf,Tryz.results273]
  refine callO_intro (htc _) ?_
  rintro r A' ⟨rfl,rfl⟩
  simp only [zW,zX,zD,builtinA,isLeaf,const1,ustrA,simprocAttr,ti167,ti394,ti396,ca107,ca108,ca298,cf,Tryz.results273]
  refine .inr (drawI_intro (.pur 0 (.pur 2 (.or 1 (.or 3 (.or 4 (.pur 5 (.or 6 .done .stop)) .stop) (.or 4 (.or 3 (.pur 5 (.or 6 .done .stop)) .stop) .stop)) (.or 4 (.or 1 (.or 3 (.pur 5 (.or 6 .done .stop)) .stop) .stop) .stop)))) (IBox (A.length + 1 + 1 + 1) (.cells [.func (.func 193) [] [],.func (.func 194) [] [],.map (A.length + 1 + 1)])) (by kernel_rfl) ?_ ?_)
  · exact ⟨by rw [Abs.getD_append_right (by omega),show A.length + 1 + 1 + 1 - A.length = 3 by omega]; rfl,by simp⟩
  refine wpI_pur_intro (v:=?_) _ rfl rfl (by decide) rfl (fun A' hI=>?_) ?_
  rotate_left
  · simp only [zW,zX,zD,builtinA,isLeaf,const1,ustrA,simprocAttr,ti167,ti394,ti396,ca107,ca108,ca298,cf,Tryz.results273,hI.1,hI.2]
    first | exact ⟨rfl,rfl⟩ | exact rfl
  refine wpI_pur_intro (v:=?_) _ rfl rfl (by decide) rfl (fun A' hI=>?_) ?_
  rotate_left
  · simp only [zW,zX,zD,builtinA,isLeaf,const1,ustrA,simprocAttr,ti167,ti394,ti396,ca107,ca108,ca298,cf,Tryz.results273,hI.1,hI.2]
    first | exact ⟨rfl,rfl⟩ | exact rfl
  simp only [zW,zX,zD,builtinA,isLeaf,const1,ustrA,simprocAttr,ti167,ti394,ti396,ca107,ca108,ca298,cf,Tryz.results273,wpI_or_eq,wpI_stop_eq,wpI_done_eq]
  have mk : ∀ L : List Box,L.getD 0 .dead = .cells [.nilf,.nilf,.nilm,.nilm,.nilf,.nilf,.nilm,.nilf,.nilf,.nilm,.nilm,.nilm] → L.getD 3 .dead = .cells [.func (.func 193) [] [],.func (.func 194) [] [],.map (A.length + 1 + 1)] → UB A (.cells [.func (.func 193) [] [],.func (.func 194) [] [],.map (A.length + 1 + 1)]) (A ++ L):=fun L h0 h3=>by
    have hl : 3 < L.length:=by
      refine Nat.lt_of_not_le fun h=>?_
      rw [List.getD,List.getElem?_eq_none h] at h3; cases h3
    exact ⟨⟨by rw [Abs.getD_append_right (by omega),show A.length + 1 + 1 + 1 - A.length = 3 by omega]; exact h3,by simp; omega⟩,⟨by rw [Abs.getD_append_right (Nat.le_refl _),Nat.sub_self]; exact h0,by simp; omega⟩,L,rfl⟩
  refine ⟨?_,?_,?_⟩
  · refine callK_intro (by simp only [zW,zX,zD,builtinA,isLeaf,const1,ustrA,simprocAttr]; rfl) (hsc _ _) ?_ rfl
    rintro r A' ⟨is,B,rfl,hA'⟩
    rw [List.append_assoc] at hA'
    have u1 : UB A (.cells [.func (.func 193) [] [],.func (.func 194) [] [],.map (A.length + 1 + 1)]) A':=by rw [hA']; exact mk _ rfl rfl
    clear hA'
    simp only [zW,zX,zD,builtinA,isLeaf,const1,ustrA,simprocAttr,ti167,ti394,ti396,ca107,ca108,ca298,cf,Tryz.results273,wpI_or_eq,wpI_stop_eq,wpI_done_eq]
    refine ⟨u1.1,?_,u1.1.app _,?_⟩
    · refine callK_intro (by simp only [zW,zX,zD,builtinA,isLeaf,const1,ustrA,simprocAttr]; rfl) (hsn _ _) ?_ rfl
      rintro r A2 ⟨bt,ix,ik,B2,rfl,hA2⟩
      have u2 : UB A (.cells [.func (.func 193) [] [],.func (.func 194) [] [],.map (A.length + 1 + 1)]) A2:=by rw [hA2]; exact u1.app _
      clear hA2
      have u3:=u2.app [Box.mapb []]
      have hs:=u3.self
      have hf:=u3.fin
      simp only [zW,zX,zD,builtinA,isLeaf,const1,ustrA,simprocAttr,ti167,ti394,ti396,ca107,ca108,ca298,cf,Tryz.results273,wpI_or_eq,wpI_stop_eq,wpI_done_eq]
      refine ⟨u2.1,u3.1,?_⟩
      refine wpI_pur_intro (v:=?_) _ rfl rfl (by decide) rfl (fun A' hI=>?_) ?_
      rotate_left
      · simp only [zW,zX,zD,builtinA,isLeaf,const1,ustrA,simprocAttr,ti167,ti394,ti396,ca107,ca108,ca298,cf,Tryz.results273,hI.1,hI.2]
        first | exact ⟨rfl,rfl⟩ | exact rfl
      simp only [zW,zX,zD,builtinA,isLeaf,const1,ustrA,simprocAttr,ti167,ti394,ti396,ca107,ca108,ca298,cf,Tryz.results273,wpI_or_eq,wpI_stop_eq,wpI_done_eq,u3.2.1.1,hs]
      exact ⟨u3.1.set (by omega) _,(hf _).elim fun Bf e=>⟨_,_,_,_,_,_,Bf,rfl,e⟩⟩
    · refine callK_intro (by simp only [zW,zX,zD,builtinA,isLeaf,const1,ustrA,simprocAttr]; rfl) (hsn _ _) ?_ rfl
      rintro r A2 ⟨bt,ix,ik,B2,rfl,hA2⟩
      have u2 : UB A (.cells [.func (.func 193) [] [],.func (.func 194) [] [],.map (A.length + 1 + 1)]) A2:=by rw [hA2]; exact (u1.app _).app _
      clear hA2
      have hs:=u2.self
      have hf:=u2.fin
      simp only [zW,zX,zD,builtinA,isLeaf,const1,ustrA,simprocAttr,ti167,ti394,ti396,ca107,ca108,ca298,cf,Tryz.results273,wpI_or_eq,wpI_stop_eq,wpI_done_eq]
      refine ⟨u2.1,?_⟩
      refine wpI_pur_intro (v:=?_) _ rfl rfl (by decide) rfl (fun A' hI=>?_) ?_
      rotate_left
      · simp only [zW,zX,zD,builtinA,isLeaf,const1,ustrA,simprocAttr,ti167,ti394,ti396,ca107,ca108,ca298,cf,Tryz.results273,hI.1,hI.2]
        first | exact ⟨rfl,rfl⟩ | exact rfl
      simp only [zW,zX,zD,builtinA,isLeaf,const1,ustrA,simprocAttr,ti167,ti394,ti396,ca107,ca108,ca298,cf,Tryz.results273,wpI_or_eq,wpI_stop_eq,wpI_done_eq,u2.2.1.1,hs]
      exact ⟨u2.1.set (by omega) _,(hf _).elim fun Bf e=>⟨_,_,_,_,_,_,Bf,rfl,e⟩⟩
  · exact (mk [_,_,_,_,_] rfl rfl).1
  · refine callK_intro (by simp only [zW,zX,zD,builtinA,isLeaf,const1,ustrA,simprocAttr]; rfl) (hsc _ _) ?_ rfl
    rintro r A' ⟨is,B,rfl,hA'⟩
    rw [List.append_assoc] at hA'
    have u1 : UB A (.cells [.func (.func 193) [] [],.func (.func 194) [] [],.map (A.length + 1 + 1)]) A':=by rw [hA']; exact mk _ rfl rfl
    clear hA'
    simp only [zW,zX,zD,builtinA,isLeaf,const1,ustrA,simprocAttr,ti167,ti394,ti396,ca107,ca108,ca298,cf,Tryz.results273,wpI_or_eq,wpI_stop_eq,wpI_done_eq]
    refine ⟨u1.1,?_⟩
    refine callK_intro (by simp only [zW,zX,zD,builtinA,isLeaf,const1,ustrA,simprocAttr]; rfl) (hsn _ _) ?_ rfl
    rintro r A2 ⟨bt,ix,ik,B2,rfl,hA2⟩
    have u2 : UB A (.cells [.func (.func 193) [] [],.func (.func 194) [] [],.map (A.length + 1 + 1)]) A2:=by rw [hA2]; exact u1.app _
    clear hA2
    have hs:=u2.self
    have hf:=u2.fin
    simp only [zW,zX,zD,builtinA,isLeaf,const1,ustrA,simprocAttr,ti167,ti394,ti396,ca107,ca108,ca298,cf,Tryz.results273,wpI_or_eq,wpI_stop_eq,wpI_done_eq]
    refine ⟨u2.1,?_⟩
    refine wpI_pur_intro (v:=?_) _ rfl rfl (by decide) rfl (fun A' hI=>?_) ?_
    rotate_left
    · simp only [zW,zX,zD,builtinA,isLeaf,const1,ustrA,simprocAttr,ti167,ti394,ti396,ca107,ca108,ca298,cf,Tryz.results273,hI.1,hI.2]
      first | exact ⟨rfl,rfl⟩ | exact rfl
    simp only [zW,zX,zD,builtinA,isLeaf,const1,ustrA,simprocAttr,ti167,ti394,ti396,ca107,ca108,ca298,cf,Tryz.results273,wpI_or_eq,wpI_stop_eq,wpI_done_eq,u2.2.1.1,hs]
    exact ⟨u2.1.set (by omega) _,(hf _).elim fun Bf e=>⟨_,_,_,_,_,_,Bf,rfl,e⟩⟩
set_option maxRecDepth 100000 in
theorem impl_UnitSame0 (u : UnI) (A : List Box) : ACalls Tryz.prog 224 [.agg (uE u),.agg [.str [],.slice [],.slice [],.slice []]] A (fun r A'=>r = .bool (noU u) ∧ A' = A):=by
  have hcm:=fun it is bt ix ik ip A=>cmpU_none it is bt ix ik ip u A
  have huc:=fun B=>uc0_new B
  rw [uE] at hcm ⊢
  simp only [cv0,tcF1,tcF2,xcF1,xcF2] at hcm huc
  refine acalls_enter (cf:=cf 9 [0,1,2,3,4]) foll Tryz.func224 Tryz.ntmps224 (by simp [cf]) ?_
  simp only [Tryz.f224,EnterK_some,zW,zX,zD,builtinA,isLeaf,const1,ustrA,simprocAttr,ti80,ca273,ca274,cf,Tryz.results224]
  refine .inr (drawI_intro (.pur 1 (.pur 2 (.or 0 (.or 3 (.pur 4 .done) .stop) .stop))) (IB0 A.length (.cells [.str u.name,.slice (pEs u.params),.slice (iEs u.body),.slice (sEs u.face)]) (A.length + 1) (.cells [.str [],.slice [],.slice [],.slice []])) (by kernel_rfl) ?_ ?_)
  · exact ⟨⟨by simp,by simp⟩,by simp,by simp⟩
  refine wpI_pur_intro (v:=?_) _ rfl rfl (by decide) rfl (fun A' hI=>?_) ?_
  rotate_left
  · simp only [zW,zX,zD,builtinA,isLeaf,const1,ustrA,simprocAttr,ti80,ca273,ca274,cf,Tryz.results224,hI.1,hI.2,hI.1.1,hI.1.2,hI.2.1,hI.2.2]
    first | exact ⟨rfl,rfl⟩ | exact rfl
  refine wpI_pur_intro (v:=?_) _ rfl rfl (by decide) rfl (fun A' hI=>?_) ?_
  rotate_left
  · simp only [zW,zX,zD,builtinA,isLeaf,const1,ustrA,simprocAttr,ti80,ca273,ca274,cf,Tryz.results224,hI.1,hI.2,hI.1.1,hI.1.2,hI.2.1,hI.2.2]
    first | exact ⟨rfl,rfl⟩ | exact rfl
  simp only [zW,zX,zD,builtinA,isLeaf,const1,ustrA,simprocAttr,ti80,ca273,ca274,cf,Tryz.results224,wpI_or_eq,wpI_stop_eq,wpI_done_eq]
  refine callK_intro (by simp only [zW,zX,zD,builtinA,isLeaf,const1,ustrA,simprocAttr]; rfl) (huc _) ?_ rfl
  rintro r A' ⟨it,is,bt,ix,ik,ip,B,rfl,hA'⟩
  have hI2 : IB0 A.length (.cells [.str u.name,.slice (pEs u.params),.slice (iEs u.body),.slice (sEs u.face)]) (A.length + 1) (.cells [.str [],.slice [],.slice [],.slice []]) A':=by
    rw [hA',List.append_assoc]
    exact ⟨⟨by rw [Abs.getD_append_right (Nat.le_refl _),Nat.sub_self]; rfl,by simp⟩,by rw [Abs.getD_append_right (by omega),show A.length + 1 - A.length = 1 by omega]; rfl,by simp⟩
  have hfr : ∃ C,A' = A ++ C:=⟨_,by rw [hA',List.append_assoc]⟩
  clear hA'
  simp only [zW,zX,zD,builtinA,isLeaf,const1,ustrA,simprocAttr,ti80,ca273,ca274,cf,Tryz.results224,wpI_or_eq,wpI_stop_eq,wpI_done_eq]
  refine ⟨hI2,?_⟩
  refine callO_intro (hcm it is bt ix ik ip _) ?_
  rintro r A2 ⟨rfl,hA2⟩
  subst hA2
  obtain ⟨C,rfl⟩:=hfr
  simp only [zW,zX,zD,builtinA,isLeaf,const1,ustrA,simprocAttr,ti80,ca273,ca274,cf,Tryz.results224,wpI_or_eq,wpI_stop_eq,wpI_done_eq]
  refine ⟨hI2,?_⟩
  refine wpI_pur_intro (v:=?_) _ rfl rfl (by decide) rfl (fun A' hI=>?_) ?_
  rotate_left
  · simp only [zW,zX,zD,builtinA,isLeaf,const1,ustrA,simprocAttr,ti80,ca273,ca274,cf,Tryz.results224,hI.1,hI.2]
    first | exact ⟨rfl,rfl⟩ | exact rfl
  simp only [zW,zX,zD,builtinA,isLeaf,const1,ustrA,simprocAttr,ti80,ca273,ca274,cf,Tryz.results224,wpI_or_eq,wpI_stop_eq,wpI_done_eq]
end Go.Proofs.YtnjdbgiincliaaaGreat
/- Lists of names as data, and what the laws' helpers do with them. -/
set_option linter.unusedVariables false
set_option linter.unusedSimpArgs false
namespace Go.Proofs.YtnjdbgiincliaaaGreat
open Go.Abs Go.RowKit Go.ChangeShapes Go.WideShapes Go.ChangeAt Go.ChangeMaps
abbrev Nms:=List (List UInt8)
def aEs (l : Nms) : List (List AV):=l.map fun s=>[AV.str s]
def szNs (l : Nms) : Nat:=(l.map List.length).sum
def NsOk (l : Nms) : Prop:=l.length < 2 ^ 63 ∧ ∀ x ∈ l,x.length < 2 ^ 63
def zns : List AV:=[.str []]
theorem aEs_length (l : Nms) : (aEs l).length = l.length:=by simp [aEs]
theorem aEs_getD {l : Nms} {i : Nat} (h : i < l.length) : (aEs l).getD i [] = [.str (l.getD i [])]:=by simp [aEs,List.getD,h]
theorem ns_mem {l : Nms} {i : Nat} (h : i < l.length) : l.getD i [] ∈ l:=by simp [List.getD,h]
theorem ns_take {l : Nms} {i : Nat} (h : i < l.length) : l.take (i + 1) = l.take i ++ [l.getD i []]:=by
  rw [List.take_add_one]; simp [List.getD,h]
theorem szNs_take {l : Nms} {i : Nat} (h : i < l.length) : szNs (l.take (i + 1)) = szNs (l.take i) + (l.getD i []).length:=by
  rw [ns_take h]; simp [szNs]
theorem szNs_le (l : Nms) (i : Nat) : szNs (l.take i) ≤ szNs l:=by
  have h : szNs l = szNs (l.take i) + szNs (l.drop i):=by
    conv=>lhs; rw [← List.take_append_drop i l]
    simp only [szNs,List.map_append,List.sum_append]
  omega
theorem nrow_step {l : Nms} {i : Nat} (h : i < l.length) : (aEs (l.take i) ++ List.replicate (l.length - i) zns).set i (AV.str (l.getD i []) :: List.drop 1 ((aEs (l.take i) ++ List.replicate (l.length - i) zns).getD i [])) = aEs (l.take (i + 1)) ++ List.replicate (l.length - (i + 1)) zns:=by
  have e1 : (aEs (l.take i)).length = i:=by rw [aEs_length]; simp; omega
  have e2 : List.drop 1 ((aEs (l.take i) ++ List.replicate (l.length - i) zns).getD i []) = []:=by
    have e3 : l.length - i = (l.length - (i + 1)) + 1:=by omega
    rw [List.getD,List.getElem?_append_right (by omega),e1,Nat.sub_self,e3,List.replicate_succ]
    rfl
  have e4 : l.length - i = (l.length - (i + 1)) + 1:=by omega
  rw [e2,List.set_append_right _ _ (by omega),e1,Nat.sub_self,e4,List.replicate_succ,List.set_cons_zero]
  simp only [aEs]
  rw [List.take_add_one,List.map_append,List.append_assoc]
  simp [List.getD,h]
set_option maxRecDepth 100000 in
theorem laws_szStringS (ks : Nms) (hl : ks.length < 2 ^ 63) (hk : ∀ t ∈ ks,t.length < 2 ^ 63) (l : Int) (A : List Box) (h0 : 0 ≤ l) (h1 : l ≤ 1048576) :
    ACalls Tryz.prog 134 [.aslice (aEs ks),.int .i64 l] A (fun v A'=>v = .int .i64 (left l (ks.length + szNs ks)) ∧ A' = A):=by
  have hw : IntKind.i64.wrap (l - ↑(aEs ks).length) = l - ks.length:=by rw [aEs_length]; exact wrap64 (by omega) (by omega)
  refine acalls_enter (cf:=cf 28 [0,1,4,5,11,15,26]) foll Tryz.func134 Tryz.ntmps134 (by simp [cf]) ?_
  simp only [Tryz.f134,EnterK_some,zW,zX,zD,builtinA,isLeaf,const1,ustrA,simprocAttr,ti3,ti9,ti48,cf,Tryz.results134]
  rw [hw]
  refine condK_intro (fun h=>?_) (fun h=>?_)
  · simp only [zW,zX,zD,builtinA,isLeaf,const1,ustrA,simprocAttr,ti3,ti9,ti48,cf,Tryz.results134]
    have : ¬ ((ks.length + szNs ks : Nat) : Int) ≤ l:=by simp at h; omega
    rw [left,if_neg this]
  · simp only [zW,zX,zD,builtinA,isLeaf,const1,ustrA,simprocAttr,ti3,ti9,ti48,cf,Tryz.results134]
    refine aloop_intro [0,1,5] (fun e A'=>∃ i,i ≤ ks.length ∧ ((ks.length + szNs (ks.take i) : Nat) : Int) ≤ l ∧ e = [(0,.aslice (aEs ks)),(1,.int .i64 (l - (ks.length + szNs (ks.take i) : Nat))),(5,.int .i64 i)] ∧ A' = A) (fun e _=>ks.length - (intOf (Abs.look 5 e)).toNat) ?_ ?_
    · refine ⟨0,by omega,?_,?_,rfl⟩
      · simp at h; simp [szNs]; omega
      · simp only [zW,zX,zD,builtinA,isLeaf,const1,ustrA,simprocAttr,ti3,ti9,ti48,cf,Tryz.results134]
        simp [szNs]
    · rintro e A' ⟨i,hi,hle,rfl,rfl⟩
      simp only [zW,zX,zD,builtinA,isLeaf,const1,ustrA,simprocAttr,ti3,ti9,ti48,cf,Tryz.results134]
      refine condK_intro (fun h2=>?_) (fun h2=>?_)
      · have hi2 : i < ks.length:=by simp [aEs_length] at h2; exact h2
        have he:=aEs_getD hi2
        have hm:=hk _ (ns_mem hi2)
        have hs:=szNs_take hi2
        have hz:=szNs_le ks (i + 1)
        have hw2 : IntKind.i64.wrap (l - ((ks.length + szNs (ks.take i) : Nat) : Int) - ((ks.getD i []).length : Int)) = l - ((ks.length + szNs (ks.take (i + 1)) : Nat) : Int):=by rw [wrap64 (by omega) (by omega)]; omega
        have hi1 : IntKind.i64.wrap ((i : Int) + 1) = ((i + 1 : Nat) : Int):=by rw [wrap64 (by omega) (by omega)]; rfl
        simp only [zW,zX,zD,builtinA,isLeaf,const1,ustrA,simprocAttr,ti3,ti9,ti48,cf,Tryz.results134,he,aEs_length]
        refine ⟨⟨by omega,by omega⟩,?_⟩
        rw [hw2]
        by_cases hf : ((ks.length + szNs (ks.take (i + 1)) : Nat) : Int) ≤ l
        · have hn : decide (l - ((ks.length + szNs (ks.take (i + 1)) : Nat) : Int) < 0) = false:=by simp only [decide_eq_false_iff_not]; omega
          simp only [zW,zX,zD,builtinA,isLeaf,const1,ustrA,simprocAttr,ti3,ti9,ti48,cf,Tryz.results134,hn,hi1,LoopK_eq,aEs_length]
          refine ⟨⟨i + 1,by omega,hf,rfl⟩,?_⟩
          simp only [intOf]
          omega
        · have hn : decide (l - ((ks.length + szNs (ks.take (i + 1)) : Nat) : Int) < 0) = true:=by simp only [decide_eq_true_eq]; omega
          rw [left,if_neg (by omega)]
          simp only [zW,zX,zD,builtinA,isLeaf,const1,ustrA,simprocAttr,ti3,ti9,ti48,cf,Tryz.results134,hn]
      · simp only [zW,zX,zD,builtinA,isLeaf,const1,ustrA,simprocAttr,ti3,ti9,ti48,cf,Tryz.results134]
        have : i = ks.length:=by simp [aEs_length] at h2; omega
        subst this
        rw [List.take_length] at hle ⊢
        rw [left,if_pos hle]
set_option maxRecDepth 100000 in
theorem laws_toStringS (ks : Nms) (hl : ks.length ≤ 1048576) (A : List Box) :
    ACalls Tryz.prog 136 [.aslice (aEs ks)] A (fun v A'=>v = .slice (aEs ks) ∧ A' = A):=by
  have hl2 : ((aEs ks).length : Int) ≤ 1048576:=by rw [aEs_length]; omega
  refine acalls_enter (cf:=cf 22 [0,2,3,4,11]) foll Tryz.func136 Tryz.ntmps136 (by simp [cf]) ?_
  simp only [Tryz.f136,EnterK_some,zW,zX,zD,builtinA,isLeaf,const1,ustrA,simprocAttr,ti3,ti9,ti48,cf,Tryz.results136]
  refine ⟨⟨by omega,by omega,by omega⟩,?_⟩
  refine aloop_intro [0,3,4] (fun e A'=>∃ i,i ≤ ks.length ∧ e = [(0,.aslice (aEs ks)),(3,.own A.length),(4,.int .i64 i)] ∧ A' = A ++ [.row 1 (aEs (ks.take i) ++ List.replicate (ks.length - i) zns) 0]) (fun e _=>ks.length - (intOf (Abs.look 4 e)).toNat) ?_ ?_
  · simp only [zW,zX,zD,builtinA,isLeaf,const1,ustrA,simprocAttr,ti3,ti9,ti48,cf,Tryz.results136]
    exact ⟨0,by omega,rfl,by rw [aEs_length]; simp [aEs,zns]⟩
  · rintro e A' ⟨i,hi,rfl,rfl⟩
    simp only [zW,zX,zD,builtinA,isLeaf,const1,ustrA,simprocAttr,ti3,ti9,ti48,cf,Tryz.results136,aEs_length]
    refine condK_intro (fun h2=>?_) (fun h2=>?_)
    · have hi2 : i < ks.length:=by simpa using h2
      have he:=aEs_getD hi2
      have hi1 : IntKind.i64.wrap ((i : Int) + 1) = ((i + 1 : Nat) : Int):=by rw [wrap64 (by omega) (by omega)]; rfl
      have hlen : (List.take i ks).length + (List.replicate (ks.length - i) zns).length = ks.length:=by
        simp; omega
      simp only [zW,zX,zD,builtinA,isLeaf,const1,ustrA,simprocAttr,ti3,ti9,ti48,cf,Tryz.results136,he,aEs_length,nrow_step hi2,hi1,LoopK_eq]
      rw [hlen]
      refine ⟨⟨by omega,by omega⟩,⟨by omega,by omega⟩,⟨by omega,by omega,fun v hv=>by rw [List.mem_singleton.1 hv]⟩,⟨i + 1,by omega,rfl,rfl⟩,?_⟩
      simp only [intOf]
      omega
    · simp only [zW,zX,zD,builtinA,isLeaf,const1,ustrA,simprocAttr,ti3,ti9,ti48,cf,Tryz.results136]
      have : i = ks.length:=by simp at h2; omega
      subst this
      simp [List.take_length]
set_option maxRecDepth 100000 in
theorem laws_eqStringS (ks : Nms) (hl : ks.length < 2 ^ 63) (A : List Box) :
    ACalls Tryz.prog 26 [.slice (aEs ks),.slice (aEs ks)] A (fun v A'=>v = .bool true ∧ A' = A):=by
  refine acalls_enter (cf:=cf 26 [0,1,4,5,10,14,25]) foll Tryz.func26 Tryz.ntmps26 (by simp [cf]) ?_
  simp only [Tryz.f26,EnterK_some,zW,zX,zD,builtinA,isLeaf,const1,ustrA,simprocAttr,ti3,ti9,ti48,cf,Tryz.results26]
  refine aloop_intro [0,1,5] (fun e A'=>∃ i,i ≤ ks.length ∧ e = [(0,.slice (aEs ks)),(1,.slice (aEs ks)),(5,.int .i64 i)] ∧ A' = A) (fun e _=>ks.length - (intOf (Abs.look 5 e)).toNat) ?_ ?_
  · simp only [zW,zX,zD,builtinA,isLeaf,const1,ustrA,simprocAttr,ti3,ti9,ti48,cf,Tryz.results26]
    exact ⟨0,by omega,rfl⟩
  · rintro e A' ⟨i,hi,rfl,rfl⟩
    simp only [zW,zX,zD,builtinA,isLeaf,const1,ustrA,simprocAttr,ti3,ti9,ti48,cf,Tryz.results26,aEs_length]
    refine condK_intro (fun h2=>?_) (fun h2=>?_)
    · have hi2 : i < ks.length:=by simpa using h2
      have he:=aEs_getD hi2
      have hi1 : IntKind.i64.wrap ((i : Int) + 1) = ((i + 1 : Nat) : Int):=by rw [wrap64 (by omega) (by omega)]; rfl
      simp only [zW,zX,zD,builtinA,isLeaf,const1,ustrA,simprocAttr,ti3,ti9,ti48,cf,Tryz.results26,he,aEs_length]
      refine .inl ⟨by kernel_rfl,by kernel_rfl,⟨by omega,by omega⟩,⟨by omega,by omega⟩,?_⟩
      simp only [zW,zX,zD,builtinA,isLeaf,const1,ustrA,simprocAttr,ti3,ti9,ti48,cf,Tryz.results26,hi1,LoopK_eq]
      refine ⟨⟨i + 1,by omega,rfl⟩,?_⟩
      simp only [intOf]
      omega
    · simp only [zW,zX,zD,builtinA,isLeaf,const1,ustrA,simprocAttr,ti3,ti9,ti48,cf,Tryz.results26]
theorem cNS : Tryz.prog.cellsOf 48 = 1:=by kernel_rfl
theorem ns_of {cz : List AV} (h : Cells Tryz.prog 48 cz) : ∃ l,cz = [.aslice (aEs l)] ∧ NsOk l:=by
  generalize ht : 48 = t at h
  cases h with
  | int h1 h2=>subst ht; rw [Tryz.underlying48] at h1; injection h1 with h1; cases h1
  | bool h1=>subst ht; rw [Tryz.underlying48] at h1; injection h1 with h1; cases h1
  | str h1=>subst ht; rw [Tryz.underlying48] at h1; injection h1 with h1; cases h1
  | slice h1 h2 h3 =>
    subst ht
    rw [Tryz.underlying48] at h1
    injection h1 with h1
    injection h1 with h1
    subst h1
    have hm : maxLen = 2 ^ 63 - 1:=rfl
    obtain ⟨ks,k1,k2,k3⟩:=list_enc (f:=fun s=>[AV.str s]) (Q:=fun s : List UInt8=>s.length < 2 ^ 63) fun r hr=>by
      obtain ⟨m,e,l⟩:=cells_str Tryz.underlying9 (h3 r hr)
      exact ⟨m,e,by omega⟩
    refine ⟨ks,by rw [aEs,k1],?_,k3⟩
    rw [k2]; omega
  | @struct t fs cs h1 h2 h3=>subst ht; rw [Tryz.underlying48] at h1; injection h1 with h1; cases h1
end Go.Proofs.YtnjdbgiincliaaaGreat
