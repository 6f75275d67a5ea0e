/- UnNew, ImLaw, ItLaw, Uns, UnSameI, AnnU. -/
import Derived.Test.YtijlnkfiadajhaaK09
import Derived.Test.YtijlnkfiadajhaaAbsW3
/- A new comparison of units. -/
set_option linter.unusedVariables false
set_option linter.unusedSimpArgs false
namespace Go.Proofs.Ytijlnkfiadajhaa
open Go.Abs
structure NB (A H : List Box) (i : Nat) (b : Box) : Prop where
  ge : A.length < i
  at_ : H.getD i .dead = b
theorem NB.app {A H : List Box} {i : Nat} {b : Box} (h : NB A H i b) (hb : b ≠ .dead) (L : List Box) : NB A (H ++ L) i b :=
  ⟨h.ge,by rw [Abs.getD_append_left (ne_dead h.at_ hb)]; exact h.at_⟩
theorem NB.lt {A H : List Box} {i : Nat} {b : Box} (h : NB A H i b) (hb : b ≠ .dead) : i < H.length:=ne_dead h.at_ hb
set_option maxRecDepth 100000 in
theorem uc_new (A : List Box) : ACalls Try.prog 28 [] A (fun r A'=>∃ it is bt ix ik ip B,r = .agg (cvU it is bt ix ik ip) ∧ A' = A ++ B ∧ (A.length ≤ it ∧ A.length ≤ is ∧ A.length ≤ bt ∧ A.length ≤ ix ∧ A.length ≤ ik ∧ A.length ≤ ip) ∧ Dif it is bt ix ik ip ∧
    A'.getD it .dead = .mapb [] ∧ A'.getD is .dead = .mapb [] ∧ A'.getD bt .dead = .cells [tF1,tF2,.map it] ∧ A'.getD ix .dead = .mapb [] ∧ A'.getD ik .dead = .mapb [] ∧ A'.getD ip .dead = .mapb []):=by
  have hsc:=fun it B h=>sc_new it B h
  have hsn:=fun it B h=>sn_new it B h
  have htc:=fun B=>tc_new B
  have fin : ∀ (H : List Box) (X : Box) (is bt ix ik ip : Nat),(∃ C,H = A ++ C) → A.length < H.length → NB A H (A.length + 1 + 1) (.mapb []) → NB A H is (.mapb []) → NB A H bt (.cells [tF1,tF2,.map (A.length + 1 + 1)]) → NB A H ix (.mapb []) → NB A H ik (.mapb []) → NB A H ip (.mapb []) → Dif (A.length + 1 + 1) is bt ix ik ip →
      ∃ it' is' bt' ix' ik' ip' B,AV.agg (cvU (A.length + 1 + 1) is bt ix ik ip) = AV.agg (cvU it' is' bt' ix' ik' ip') ∧ H.set A.length X = A ++ B ∧ (A.length ≤ it' ∧ A.length ≤ is' ∧ A.length ≤ bt' ∧ A.length ≤ ix' ∧ A.length ≤ ik' ∧ A.length ≤ ip') ∧ Dif it' is' bt' ix' ik' ip' ∧
        (H.set A.length X).getD it' .dead = .mapb [] ∧ (H.set A.length X).getD is' .dead = .mapb [] ∧ (H.set A.length X).getD bt' .dead = .cells [tF1,tF2,.map it'] ∧ (H.set A.length X).getD ix' .dead = .mapb [] ∧ (H.set A.length X).getD ik' .dead = .mapb [] ∧ (H.set A.length X).getD ip' .dead = .mapb []:=by
    rintro H X is bt ix ik ip ⟨C,rfl⟩ hl h1 h2 h3 h4 h5 h6 hd
    have hs : ∀ i,A.length < i → ((A ++ C).set A.length X).getD i .dead = (A ++ C).getD i .dead:=fun i hi=>Abs.getD_set_ne' (by omega)
    refine ⟨_,is,bt,ix,ik,ip,C.set 0 X,rfl,by rw [List.set_append_right _ _ (Nat.le_refl _),Nat.sub_self],⟨by have:=h1.ge; omega,by have:=h2.ge; omega,by have:=h3.ge; omega,by have:=h4.ge; omega,by have:=h5.ge; omega,by have:=h6.ge; omega⟩,hd,?_,?_,?_,?_,?_,?_⟩
    · rw [hs _ h1.ge]; exact h1.at_
    · rw [hs _ h2.ge]; exact h2.at_
    · rw [hs _ h3.ge]; exact h3.at_
    · rw [hs _ h4.ge]; exact h4.at_
    · rw [hs _ h5.ge]; exact h5.at_
    · rw [hs _ h6.ge]; exact h6.at_
  simp only [tF1,tF2,SX.xF1,SX.xF2,cvU] at hsc hsn htc fin ⊢
  refine acalls_enterK (cf:=cf 9 [0,1]) foll Try.func28 Try.ntmps28 (by simp [cf]) ?_
  simp only [Try.f28,EnterK_some,zW,zX,zD,builtinA,isLeaf,const1,ustrA,simprocAttr,ti78,ti93,ti95,ca46,ca56,ca57,cf,Try.results28]
  refine callO_intro (htc _) ?_
  rintro r A' ⟨rfl,rfl⟩
  simp only [zW,zX,zD,builtinA,isLeaf,const1,ustrA,simprocAttr,ti78,ti93,ti95,ca46,ca56,ca57,cf,Try.results28]
  refine .inr (drawI_intro (.pur 0 (.pur 2 (.or 1 (.or 3 (.or 4 (.pur 5 (.or 6 .done .stop)) .stop) (.or 4 (.or 3 (.pur 5 (.or 6 .done .stop)) .stop) .stop)) (.or 4 (.or 1 (.or 3 (.pur 5 (.or 6 .done .stop)) .stop) .stop) .stop)))) (IBox (A.length + 1 + 1 + 1) (.cells [.func (.func 83) [] [],.func (.func 84) [] [],.map (A.length + 1 + 1)])) (by kernel_rfl) ?_ ?_)
  · exact ⟨by rw [Abs.getD_append_right (by omega),show A.length + 1 + 1 + 1 - A.length = 3 by omega]; rfl,by simp⟩
  refine wpI_pur_intro (v:=?_) _ rfl rfl (by decide) rfl (fun A' hI=>?_) ?_
  rotate_left
  · simp only [zW,zX,zD,builtinA,isLeaf,const1,ustrA,simprocAttr,ti78,ti93,ti95,ca46,ca56,ca57,cf,Try.results28,hI.1,hI.2]
    first | exact ⟨rfl,rfl⟩ | exact rfl
  refine wpI_pur_intro (v:=?_) _ rfl rfl (by decide) rfl (fun A' hI=>?_) ?_
  rotate_left
  · simp only [zW,zX,zD,builtinA,isLeaf,const1,ustrA,simprocAttr,ti78,ti93,ti95,ca46,ca56,ca57,cf,Try.results28,hI.1,hI.2]
    first | exact ⟨rfl,rfl⟩ | exact rfl
  simp only [zW,zX,zD,builtinA,isLeaf,const1,ustrA,simprocAttr,ti78,ti93,ti95,ca46,ca56,ca57,cf,Try.results28,wpI_or_eq,wpI_stop_eq,wpI_done_eq]
  have hz : ∀ L : List Box,(A ++ L).getD A.length .dead = L.getD 0 .dead:=fun L=>by rw [Abs.getD_append_right (Nat.le_refl _),Nat.sub_self]
  have hn2 : ∀ L : List Box,L.getD 2 .dead = .mapb [] → NB A (A ++ L) (A.length + 1 + 1) (.mapb []):=fun L h=>⟨by omega,by rw [Abs.getD_append_right (by omega),show A.length + 1 + 1 - A.length = 2 by omega]; exact h⟩
  have hn3 : ∀ L : List Box,L.getD 3 .dead = .cells [.func (.func 83) [] [],.func (.func 84) [] [],.map (A.length + 1 + 1)] → (A ++ L).getD (A.length + 1 + 1 + 1) .dead = .cells [.func (.func 83) [] [],.func (.func 84) [] [],.map (A.length + 1 + 1)]:=fun L h=>by rw [Abs.getD_append_right (by omega),show A.length + 1 + 1 + 1 - A.length = 3 by omega]; exact h
  have hz0 : ∀ (A2 L : List Box),A2 = A ++ L → L.getD 0 .dead = .cells [.nilf,.nilf,.nilm,.nilm,.nilf,.nilf,.nilm,.nilf,.nilf,.nilm,.nilm,.nilm] → A2.getD A.length .dead = .cells [.nilf,.nilf,.nilm,.nilm,.nilf,.nilf,.nilm,.nilf,.nilf,.nilm,.nilm,.nilm]:=fun A2 L h h'=>by rw [h]; rw [Abs.getD_append_right (Nat.le_refl _),Nat.sub_self]; exact h'
  -- the new comparison of signatures
  have sc1 : ∀ (H : List Box) (r : AV) (A2 : List Box),(∃ k B,r = .agg [.func (.func 83) [] [],.func (.func 84) [] [],.map (A.length + 1 + 1),.map (H.length + k)] ∧ A2 = H ++ B ∧ k < B.length ∧ B.getD k .dead = .mapb []) → A.length < H.length →
      ∃ is B,r = .agg [.func (.func 83) [] [],.func (.func 84) [] [],.map (A.length + 1 + 1),.map is] ∧ A2 = H ++ B ∧ H.length ≤ is ∧ is < A2.length ∧ NB A A2 is (.mapb []):=by
    rintro H r A2 ⟨k,B,rfl,rfl,hk,hB⟩ hl
    exact ⟨H.length + k,B,rfl,rfl,by omega,by simp; omega,by omega,by rw [Abs.getD_append_right (by omega),Nat.add_sub_cancel_left]; exact hB⟩
  refine ⟨?_,?_,?_⟩
  · refine callK_intro (by simp only [zW,zX,zD,builtinA,isLeaf,const1,ustrA,simprocAttr]; rfl) (hsc _ _ (by simp)) ?_ rfl
    rintro r A' hr
    obtain ⟨is,B,rfl,hA',hge,hlt,ps⟩:=sc1 _ _ _ hr (by simp)
    rw [List.append_assoc] at hA'
    have p0:=hz0 _ _ hA' rfl
    have p2 : NB A A' (A.length + 1 + 1) (.mapb []):=by rw [hA']; exact hn2 _ rfl
    have p3 : IBox (A.length + 1 + 1 + 1) (.cells [.func (.func 83) [] [],.func (.func 84) [] [],.map (A.length + 1 + 1)]) A':=⟨by rw [hA']; exact hn3 _ rfl,by rw [hA']; simp; omega⟩
    have pc : ∃ C,A' = A ++ C:=⟨_,hA'⟩
    simp only [List.length_append,List.length_cons,List.length_nil] at hge
    clear hA' hr
    simp only [zW,zX,zD,builtinA,isLeaf,const1,ustrA,simprocAttr,ti78,ti93,ti95,ca46,ca56,ca57,cf,Try.results28,wpI_or_eq,wpI_stop_eq,wpI_done_eq]
    refine ⟨p3,?_,p3.app _,?_⟩
    · refine callK_intro (by simp only [zW,zX,zD,builtinA,isLeaf,const1,ustrA,simprocAttr]; rfl) (hsn _ _ (by omega)) ?_ rfl
      rintro r A2 ⟨bt,ix,ik,B2,rfl,hA2,⟨g1,g2,g3⟩,⟨g4,g5,g6⟩,⟨g7,g8,g9⟩,g10,g11,g12⟩
      have q0 : A2.getD A.length .dead = .cells [.nilf,.nilf,.nilm,.nilm,.nilf,.nilf,.nilm,.nilf,.nilf,.nilm,.nilm,.nilm]:=by rw [hA2,Abs.getD_append_left (by omega)]; exact p0
      have q2 : NB A A2 (A.length + 1 + 1) (.mapb []):=by rw [hA2]; exact p2.app (by simp) _
      have q3 : IBox (A.length + 1 + 1 + 1) (.cells [.func (.func 83) [] [],.func (.func 84) [] [],.map (A.length + 1 + 1)]) A2:=by rw [hA2]; exact p3.app _
      have qs : NB A A2 is (.mapb []):=by rw [hA2]; exact ps.app (by simp) _
      have qc : ∃ C,A2 = A ++ C:=by obtain ⟨C,rfl⟩:=pc; exact ⟨C ++ B2,by rw [hA2,List.append_assoc]⟩
      clear hA2
      have ql : A.length < A2.length:=by omega
      have r0 : (A2 ++ [Box.mapb []]).getD A.length .dead = .cells [.nilf,.nilf,.nilm,.nilm,.nilf,.nilf,.nilm,.nilf,.nilf,.nilm,.nilm,.nilm]:=by rw [Abs.getD_append_left ql]; exact q0
      have rp : NB A (A2 ++ [Box.mapb []]) A2.length (.mapb []):=⟨by omega,by rw [Abs.getD_append_right (Nat.le_refl _),Nat.sub_self]; rfl⟩
      have hf:=fun X=>fin (A2 ++ [Box.mapb []]) X is bt ix ik A2.length (by obtain ⟨C,rfl⟩:=qc; exact ⟨C ++ [.mapb []],by rw [List.append_assoc]⟩) (by simp; omega) (q2.app (by simp) _) (qs.app (by simp) _) (⟨by omega,by rw [Abs.getD_append_left g4]; exact g10⟩) (⟨by omega,by rw [Abs.getD_append_left g5]; exact g11⟩) (⟨by omega,by rw [Abs.getD_append_left g6]; exact g12⟩) rp
        ⟨⟨by omega,by omega,by omega,by omega,by omega⟩,⟨by omega,by omega,by omega,by omega⟩,⟨by omega,by omega,by omega⟩,⟨by omega,by omega⟩,by omega⟩
      simp only [zW,zX,zD,builtinA,isLeaf,const1,ustrA,simprocAttr,ti78,ti93,ti95,ca46,ca56,ca57,cf,Try.results28,wpI_or_eq,wpI_stop_eq,wpI_done_eq]
      refine ⟨q3,q3.app _,?_⟩
      refine wpI_pur_intro (v:=?_) _ rfl rfl (by decide) rfl (fun A' hI=>?_) ?_
      rotate_left
      · simp only [zW,zX,zD,builtinA,isLeaf,const1,ustrA,simprocAttr,ti78,ti93,ti95,ca46,ca56,ca57,cf,Try.results28,hI.1,hI.2]
        first | exact ⟨rfl,rfl⟩ | exact rfl
      have hself : ∀ X : Box,((A2 ++ [Box.mapb []]).set A.length X).getD A.length .dead = X:=fun X=>Abs.getD_set_self (by simp; omega)
      simp only [zW,zX,zD,builtinA,isLeaf,const1,ustrA,simprocAttr,ti78,ti93,ti95,ca46,ca56,ca57,cf,Try.results28,wpI_or_eq,wpI_stop_eq,wpI_done_eq,r0,hself]
      exact ⟨(q3.app _).set (by omega) _,hf _⟩
    · refine callK_intro (by simp only [zW,zX,zD,builtinA,isLeaf,const1,ustrA,simprocAttr]; rfl) (hsn _ _ (by simp; omega)) ?_ rfl
      rintro r A2 ⟨bt,ix,ik,B2,rfl,hA2,⟨g1,g2,g3⟩,⟨g4,g5,g6⟩,⟨g7,g8,g9⟩,g10,g11,g12⟩
      simp only [List.length_append,List.length_cons,List.length_nil] at g1 g2 g3
      rw [List.append_assoc] at hA2
      have q0 : A2.getD A.length .dead = .cells [.nilf,.nilf,.nilm,.nilm,.nilf,.nilf,.nilm,.nilf,.nilf,.nilm,.nilm,.nilm]:=by rw [hA2,Abs.getD_append_left (by omega)]; exact p0
      have q2 : NB A A2 (A.length + 1 + 1) (.mapb []):=by rw [hA2]; exact p2.app (by simp) _
      have q3 : IBox (A.length + 1 + 1 + 1) (.cells [.func (.func 83) [] [],.func (.func 84) [] [],.map (A.length + 1 + 1)]) A2:=by rw [hA2]; exact p3.app _
      have qs : NB A A2 is (.mapb []):=by rw [hA2]; exact ps.app (by simp) _
      have rp : NB A A2 A'.length (.mapb []):=⟨by omega,by rw [hA2,Abs.getD_append_right (Nat.le_refl _),Nat.sub_self]; rfl⟩
      have qc : ∃ C,A2 = A ++ C:=by obtain ⟨C,rfl⟩:=pc; exact ⟨C ++ ([Box.mapb []] ++ B2),by rw [hA2,List.append_assoc]⟩
      clear hA2
      have ql : A.length < A2.length:=by omega
      have hf:=fun X=>fin A2 X is bt ix ik A'.length qc ql q2 qs ⟨by omega,g10⟩ ⟨by omega,g11⟩ ⟨by omega,g12⟩ rp
        ⟨⟨by omega,by omega,by omega,by omega,by omega⟩,⟨by omega,by omega,by omega,by omega⟩,⟨by omega,by omega,by omega⟩,⟨by omega,by omega⟩,by omega⟩
      have hself : ∀ X : Box,(A2.set A.length X).getD A.length .dead = X:=fun X=>Abs.getD_set_self ql
      simp only [zW,zX,zD,builtinA,isLeaf,const1,ustrA,simprocAttr,ti78,ti93,ti95,ca46,ca56,ca57,cf,Try.results28,wpI_or_eq,wpI_stop_eq,wpI_done_eq]
      refine ⟨q3,?_⟩
      refine wpI_pur_intro (v:=?_) _ rfl rfl (by decide) rfl (fun A' hI=>?_) ?_
      rotate_left
      · simp only [zW,zX,zD,builtinA,isLeaf,const1,ustrA,simprocAttr,ti78,ti93,ti95,ca46,ca56,ca57,cf,Try.results28,hI.1,hI.2]
        first | exact ⟨rfl,rfl⟩ | exact rfl
      simp only [zW,zX,zD,builtinA,isLeaf,const1,ustrA,simprocAttr,ti78,ti93,ti95,ca46,ca56,ca57,cf,Try.results28,wpI_or_eq,wpI_stop_eq,wpI_done_eq,q0,hself]
      exact ⟨q3.set (by omega) _,hf _⟩
  · exact ⟨hn3 _ rfl,by simp⟩
  · refine callK_intro (by simp only [zW,zX,zD,builtinA,isLeaf,const1,ustrA,simprocAttr]; rfl) (hsc _ _ (by simp)) ?_ rfl
    rintro r A' hr
    obtain ⟨is,B,rfl,hA',hge,hlt,ps⟩:=sc1 _ _ _ hr (by simp)
    rw [List.append_assoc] at hA'
    have p0:=hz0 _ _ hA' rfl
    have p2 : NB A A' (A.length + 1 + 1) (.mapb []):=by rw [hA']; exact hn2 _ rfl
    have p3 : IBox (A.length + 1 + 1 + 1) (.cells [.func (.func 83) [] [],.func (.func 84) [] [],.map (A.length + 1 + 1)]) A':=⟨by rw [hA']; exact hn3 _ rfl,by rw [hA']; simp; omega⟩
    have p4 : NB A A' (A.length + 4) (.mapb []):=⟨by omega,by rw [hA',Abs.getD_append_right (by omega),show A.length + 4 - A.length = 4 by omega]; rfl⟩
    have pc : ∃ C,A' = A ++ C:=⟨_,hA'⟩
    simp only [List.length_append,List.length_cons,List.length_nil] at hge
    clear hA' hr
    simp only [zW,zX,zD,builtinA,isLeaf,const1,ustrA,simprocAttr,ti78,ti93,ti95,ca46,ca56,ca57,cf,Try.results28,wpI_or_eq,wpI_stop_eq,wpI_done_eq]
    refine ⟨p3,?_⟩
    refine callK_intro (by simp only [zW,zX,zD,builtinA,isLeaf,const1,ustrA,simprocAttr]; rfl) (hsn _ _ (by omega)) ?_ rfl
    rintro r A2 ⟨bt,ix,ik,B2,rfl,hA2,⟨g1,g2,g3⟩,⟨g4,g5,g6⟩,⟨g7,g8,g9⟩,g10,g11,g12⟩
    have q0 : A2.getD A.length .dead = .cells [.nilf,.nilf,.nilm,.nilm,.nilf,.nilf,.nilm,.nilf,.nilf,.nilm,.nilm,.nilm]:=by rw [hA2,Abs.getD_append_left (by omega)]; exact p0
    have q2 : NB A A2 (A.length + 1 + 1) (.mapb []):=by rw [hA2]; exact p2.app (by simp) _
    have q3 : IBox (A.length + 1 + 1 + 1) (.cells [.func (.func 83) [] [],.func (.func 84) [] [],.map (A.length + 1 + 1)]) A2:=by rw [hA2]; exact p3.app _
    have qs : NB A A2 is (.mapb []):=by rw [hA2]; exact ps.app (by simp) _
    have rp : NB A A2 (A.length + 4) (.mapb []):=by rw [hA2]; exact p4.app (by simp) _
    have qc : ∃ C,A2 = A ++ C:=by obtain ⟨C,rfl⟩:=pc; exact ⟨C ++ B2,by rw [hA2,List.append_assoc]⟩
    clear hA2
    have ql : A.length < A2.length:=by omega
    have hf:=fun X=>fin A2 X is bt ix ik (A.length + 4) qc ql q2 qs ⟨by omega,g10⟩ ⟨by omega,g11⟩ ⟨by omega,g12⟩ rp
      ⟨⟨by omega,by omega,by omega,by omega,by omega⟩,⟨by omega,by omega,by omega,by omega⟩,⟨by omega,by omega,by omega⟩,⟨by omega,by omega⟩,by omega⟩
    have hself : ∀ X : Box,(A2.set A.length X).getD A.length .dead = X:=fun X=>Abs.getD_set_self ql
    simp only [zW,zX,zD,builtinA,isLeaf,const1,ustrA,simprocAttr,ti78,ti93,ti95,ca46,ca56,ca57,cf,Try.results28,wpI_or_eq,wpI_stop_eq,wpI_done_eq]
    refine ⟨q3,?_⟩
    refine wpI_pur_intro (v:=?_) _ rfl rfl (by decide) rfl (fun A' hI=>?_) ?_
    rotate_left
    · simp only [zW,zX,zD,builtinA,isLeaf,const1,ustrA,simprocAttr,ti78,ti93,ti95,ca46,ca56,ca57,cf,Try.results28,hI.1,hI.2]
      first | exact ⟨rfl,rfl⟩ | exact rfl
    simp only [zW,zX,zD,builtinA,isLeaf,const1,ustrA,simprocAttr,ti78,ti93,ti95,ca46,ca56,ca57,cf,Try.results28,wpI_or_eq,wpI_stop_eq,wpI_done_eq,q0,hself]
    exact ⟨q3.set (by omega) _,hf _⟩
end Go.Proofs.Ytijlnkfiadajhaa
/- From a law's argument, a list of modules, to data. -/
set_option linter.unusedVariables false
set_option linter.unusedSimpArgs false
namespace Go.Proofs.Ytijlnkfiadajhaa
open Go.Abs Go.RowKit Go.ChangeShapes Go.WideShapes Go.ChangeAt Go.ChangeMaps
def ImsOk (l : List ImI) : Prop:=l.length < 2 ^ 63 ∧ ∀ x ∈ l,x.Ok
theorem cP : Try.prog.cellsOf 122 = 2:=by kernel_rfl
theorem cPS : Try.prog.cellsOf 22 = 1:=by kernel_rfl
theorem two_of {α : Type} {l : List α} (h : l.length = 2) : ∃ a b,l = [a,b]:=by
  match l,h with
  | [a,b],_=>exact ⟨a,b,rfl⟩
theorem pm_of {cz : List AV} (h : Cells Try.prog 122 cz) : ∃ x : ImI,cz = pEA x ∧ x.Ok:=by
  generalize ht : 122 = t at h
  cases h with
  | int h1 h2=>subst ht; rw [Try.underlying122] at h1; injection h1 with h1; cases h1
  | bool h1=>subst ht; rw [Try.underlying122] at h1; injection h1 with h1; cases h1
  | str h1=>subst ht; rw [Try.underlying122] at h1; injection h1 with h1; cases h1
  | slice h1 h2 h3=>subst ht; rw [Try.underlying122] at h1; injection h1 with h1; cases h1
  | @struct t fs cs h1 h2 h3 =>
    subst ht
    rw [Try.underlying122] at h1
    injection h1 with h1
    injection h1 with h1
    subst h1
    rw [cP] at h2
    obtain ⟨a,b,rfl⟩:=two_of h2
    simp only [List.mem_cons,List.not_mem_nil,or_false,forall_eq_or_imp,forall_eq,c3,c9,cS,cT,cIS,List.drop_zero,List.drop_succ_cons,List.take_succ_cons,List.take_zero] at h3
    obtain ⟨m,e2,l2⟩:=cells_str Try.underlying9 h3.1
    obtain ⟨τ,e3,l3⟩:=sis_of h3.2
    injection e2 with e2; injection e3 with e3
    subst e2; subst e3
    have hm : maxLen = 2 ^ 63 - 1:=rfl
    exact ⟨⟨m,τ⟩,rfl,by simp only [ImI.Ok]; exact ⟨by omega,l3⟩⟩
theorem pms_of {cz : List AV} (h : Cells Try.prog 22 cz) : ∃ l,cz = [.aslice (pEAs l)] ∧ ImsOk l:=by
  generalize ht : 22 = t at h
  cases h with
  | int h1 h2=>subst ht; rw [Try.underlying22] at h1; injection h1 with h1; cases h1
  | bool h1=>subst ht; rw [Try.underlying22] at h1; injection h1 with h1; cases h1
  | str h1=>subst ht; rw [Try.underlying22] at h1; injection h1 with h1; cases h1
  | slice h1 h2 h3 =>
    subst ht
    rw [Try.underlying22] at h1
    injection h1 with h1
    injection h1 with h1
    subst h1
    obtain ⟨ks,k1,k2,k3⟩:=list_enc (f:=pEA) (Q:=ImI.Ok) fun r hr=>pm_of (h3 r hr)
    have hm : maxLen = 2 ^ 63 - 1:=rfl
    refine ⟨ks,by rw [pEAs,k1],?_,k3⟩
    rw [k2]; omega
  | @struct t fs cs h1 h2 h3=>subst ht; rw [Try.underlying22] at h1; injection h1 with h1; cases h1
section
variable {H : Type} {enc' : TypeId × Value → H} {W : World}
end
end Go.Proofs.Ytijlnkfiadajhaa
/- From a law's argument, a list of items of a structure, to data. -/
set_option linter.unusedVariables false
set_option linter.unusedSimpArgs false
namespace Go.Proofs.Ytijlnkfiadajhaa
open Go.Abs Go.RowKit Go.ChangeShapes Go.WideShapes Go.ChangeAt Go.ChangeMaps
def ItsOk (l : List ItI) : Prop:=l.length < 2 ^ 63 ∧ ∀ x ∈ l,x.Ok
theorem cJ : Try.prog.cellsOf 125 = 15:=by kernel_rfl
theorem cJS : Try.prog.cellsOf 23 = 1:=by kernel_rfl
theorem fifteen {α : Type} {l : List α} (h : l.length = 15) : ∃ a b c d e f g i j k m n p q r,l = [a,b,c,d,e,f,g,i,j,k,m,n,p,q,r]:=by
  match l,h with
  | [a,b,c,d,e,f,g,i,j,k,m,n,p,q,r],_=>exact ⟨a,b,c,d,e,f,g,i,j,k,m,n,p,q,r,rfl⟩
theorem it_of {cz : List AV} (h : Cells Try.prog 125 cz) : ∃ x : ItI,cz = iEA x ∧ x.Ok:=by
  generalize ht : 125 = t at h
  cases h with
  | int h1 h2=>subst ht; rw [Try.underlying125] at h1; injection h1 with h1; cases h1
  | bool h1=>subst ht; rw [Try.underlying125] at h1; injection h1 with h1; cases h1
  | str h1=>subst ht; rw [Try.underlying125] at h1; injection h1 with h1; cases h1
  | slice h1 h2 h3=>subst ht; rw [Try.underlying125] at h1; injection h1 with h1; cases h1
  | @struct t fs cs h1 h2 h3 =>
    subst ht
    rw [Try.underlying125] at h1
    injection h1 with h1
    injection h1 with h1
    subst h1
    rw [cJ] at h2
    obtain ⟨a,b,c,d,e,f,g,i,j,k,m,n,p,q,r,rfl⟩:=fifteen h2
    simp only [List.mem_cons,List.not_mem_nil,or_false,forall_eq_or_imp,forall_eq,c3,c9,cS,cT,cX,List.drop_zero,List.drop_succ_cons,List.take_succ_cons,List.take_zero] at h3
    obtain ⟨n',e1⟩:=cells_int Try.underlying3 h3.1
    obtain ⟨m',e2,l2⟩:=cells_str Try.underlying9 h3.2.1
    obtain ⟨τ,e3,l3⟩:=(ty_of h3.2.2.1).1 rfl
    obtain ⟨⟨xk,xi,xm,xn,xt,xs⟩,e4,l4⟩:=(ex_of h3.2.2.2).1 rfl
    injection e1 with e1; injection e2 with e2
    subst e1; subst e2
    have hm : maxLen = 2 ^ 63 - 1:=rfl
    refine ⟨⟨n',m',τ,xk,xi,xm,xn,xt,xs⟩,?_,by show m'.length < 2 ^ 63; omega,l3,l4⟩
    rw [encTA4] at e3
    rw [encXA] at e4
    simp only [List.cons.injEq,and_true] at e3 e4
    obtain ⟨rfl,rfl,rfl,rfl⟩:=e3
    obtain ⟨rfl,rfl,rfl,rfl,rfl,rfl,rfl,rfl,rfl⟩:=e4
    rfl
theorem its_of {cz : List AV} (h : Cells Try.prog 23 cz) : ∃ l,cz = [.aslice (iEAs l)] ∧ ItsOk l:=by
  generalize ht : 23 = t at h
  cases h with
  | int h1 h2=>subst ht; rw [Try.underlying23] at h1; injection h1 with h1; cases h1
  | bool h1=>subst ht; rw [Try.underlying23] at h1; injection h1 with h1; cases h1
  | str h1=>subst ht; rw [Try.underlying23] at h1; injection h1 with h1; cases h1
  | slice h1 h2 h3 =>
    subst ht
    rw [Try.underlying23] at h1
    injection h1 with h1
    injection h1 with h1
    subst h1
    obtain ⟨ks,k1,k2,k3⟩:=list_enc (f:=iEA) (Q:=ItI.Ok) fun r hr=>it_of (h3 r hr)
    have hm : maxLen = 2 ^ 63 - 1:=rfl
    refine ⟨ks,by rw [iEAs,k1],?_,k3⟩
    rw [k2]; omega
  | @struct t fs cs h1 h2 h3=>subst ht; rw [Try.underlying23] at h1; injection h1 with h1; cases h1
section
variable {H : Type} {enc' : TypeId × Value → H} {W : World}
end
end Go.Proofs.Ytijlnkfiadajhaa
/- Units as data, what the laws' helpers do with them, and a law's argument that is a unit. -/
set_option linter.unusedVariables false
set_option linter.unusedSimpArgs false
namespace Go.Proofs.Ytijlnkfiadajhaa
open Go.Abs Go.RowKit Go.ChangeShapes Go.WideShapes Go.ChangeAt Go.ChangeMaps
structure UnI where
  name : List UInt8
  params : List ImI
  body : List ItI
  face : List SigI
def uE (x : UnI) : List AV:=[.str x.name,.slice (pEs x.params),.slice (iEs x.body),.slice (sEs x.face)]
def uEA (x : UnI) : List AV:=[.str x.name,.aslice (pEAs x.params),.aslice (iEAs x.body),.aslice (sEAs x.face)]
def szUp (x : UnI) : Nat:=x.name.length + (x.params.length + szPs x.params)
def szUb (x : UnI) : Nat:=szUp x + (x.body.length + szJs x.body)
def szU (x : UnI) : Nat:=szUb x + (x.face.length + szIs x.face)
def UnI.Ok (x : UnI) : Prop:=x.name.length < 2 ^ 63 ∧ ImsOk x.params ∧ ItsOk x.body ∧ SigsOk x.face
theorem uE_length (x : UnI) : (uE x).length = 4:=rfl
theorem uEA_length (x : UnI) : (uEA x).length = 4:=rfl
theorem uE_take (x : UnI) : List.take 4 (uE x) = uE x:=rfl
theorem uEA_take (x : UnI) : List.take 4 (uEA x) = uEA x:=rfl
theorem frzL_uE (x : UnI) (A : List Box) : frzL (uE x) A = some (uE x,A):=rfl
theorem frzL_uEA (x : UnI) (A : List Box) : frzL (uEA x) A = some (uEA x,A):=rfl
theorem left_add {l : Int} {a b : Nat} (h : ((a : Nat) : Int) ≤ l) : left (l - (a : Nat)) b = left l (a + b):=by
  unfold left
  by_cases h2 : ((b : Nat) : Int) ≤ l - (a : Nat)
  · rw [if_pos h2,if_pos (by omega)]; omega
  · rw [if_neg h2,if_neg (by omega)]
theorem left_yes {l : Int} {a : Nat} (h : ((a : Nat) : Int) ≤ l) : left l a = l - (a : Nat):=by unfold left; rw [if_pos h]
theorem left_no {l : Int} {a : Nat} (h : ¬ ((a : Nat) : Int) ≤ l) : left l a = -1:=by unfold left; rw [if_neg h]
set_option maxRecDepth 100000 in
theorem laws_szUnit (x : UnI) (hx : x.Ok) (l : Int) (A : List Box) (h0 : 0 ≤ l) (h1 : l ≤ 1048576) :
    ACalls Try.prog 6 [.agg (uEA x),.int .i64 l] A (fun v A'=>v = .int .i64 (left l (szU x)) ∧ A' = A):=by
  have hw : IntKind.i64.wrap (l - ↑x.name.length) = l - x.name.length:=wrap64 (by have:=hx.1; omega) (by have:=hx.1; omega)
  obtain ⟨hx1,hx2,hx3,hx4⟩:=hx
  rw [uEA]
  refine acalls_enter (cf:=cf 31 [0,1,2,4,11,17,23,29]) foll Try.func6 Try.ntmps6 (by simp [cf]) ?_
  simp only [Try.f6,EnterK_some,zW,zX,zD,builtinA,isLeaf,const1,ustrA,simprocAttr,ti3,ti9,ti22,ti23,ti24,ti26,ti122,ti125,ti128,ca20,ca21,ca22,cf,Try.results6]
  rw [hw]
  refine condK_intro (fun h=>?_) (fun h=>?_)
  · simp only [decide_eq_true_eq] at h
    simp only [zW,zX,zD,builtinA,isLeaf,const1,ustrA,simprocAttr,ti3,ti9,ti22,ti23,ti24,ti26,ti122,ti125,ti128,ca20,ca21,ca22,cf,Try.results6]
    rw [left_no (by unfold szU szUb szUp; omega)]
  · simp only [decide_eq_false_iff_not] at h
    have hl1:=left_add (l:=l) (a:=x.name.length) (b:=x.params.length + szPs x.params) (by omega)
    have e1 : x.name.length + (x.params.length + szPs x.params) = szUp x:=rfl
    rw [e1] at hl1
    simp only [zW,zX,zD,builtinA,isLeaf,const1,ustrA,simprocAttr,ti3,ti9,ti22,ti23,ti24,ti26,ti122,ti125,ti128,ca20,ca21,ca22,cf,Try.results6]
    refine callK_intro (by simp only [zW,zX,zD,builtinA,isLeaf,const1,ustrA,simprocAttr,Option.map_some]; rfl) (laws_szImportS x.params hx2.1 hx2.2 _ _ (by omega) (by omega)) ?_ rfl; rintro v A' ⟨rfl,rfl⟩
    rw [hl1]
    by_cases hf : ((szUp x : Nat) : Int) ≤ l
    · have hl2:=left_add (l:=l) (a:=szUp x) (b:=x.body.length + szJs x.body) hf
      have e2 : szUp x + (x.body.length + szJs x.body) = szUb x:=rfl
      rw [e2] at hl2
      have hn : decide (l - szUp x < 0) = false:=by simp only [decide_eq_false_iff_not]; omega
      rw [left_yes hf]
      simp only [zW,zX,zD,builtinA,isLeaf,const1,ustrA,simprocAttr,ti3,ti9,ti22,ti23,ti24,ti26,ti122,ti125,ti128,ca20,ca21,ca22,cf,Try.results6,hn]
      refine callK_intro (by simp only [zW,zX,zD,builtinA,isLeaf,const1,ustrA,simprocAttr,Option.map_some]; rfl) (laws_szItemS x.body hx3.1 hx3.2 _ _ (by omega) (by omega)) ?_ rfl; rintro v A' ⟨rfl,rfl⟩
      rw [hl2]
      by_cases hg : ((szUb x : Nat) : Int) ≤ l
      · have hl3:=left_add (l:=l) (a:=szUb x) (b:=x.face.length + szIs x.face) hg
        have e3 : szUb x + (x.face.length + szIs x.face) = szU x:=rfl
        rw [e3] at hl3
        have hn2 : decide (l - szUb x < 0) = false:=by simp only [decide_eq_false_iff_not]; omega
        rw [left_yes hg]
        simp only [zW,zX,zD,builtinA,isLeaf,const1,ustrA,simprocAttr,ti3,ti9,ti22,ti23,ti24,ti26,ti122,ti125,ti128,ca20,ca21,ca22,cf,Try.results6,hn2]
        refine callK_intro (by simp only [zW,zX,zD,builtinA,isLeaf,const1,ustrA,simprocAttr,Option.map_some]; rfl) (laws_szSigItemS x.face hx4.1 hx4.2 _ _ (by omega) (by omega)) ?_ rfl; rintro v A' ⟨rfl,rfl⟩
        rw [hl3]
        by_cases hh : ((szU x : Nat) : Int) ≤ l
        · have hn3 : decide (l - szU x < 0) = false:=by simp only [decide_eq_false_iff_not]; omega
          rw [left_yes hh]
          simp only [zW,zX,zD,builtinA,isLeaf,const1,ustrA,simprocAttr,ti3,ti9,ti22,ti23,ti24,ti26,ti122,ti125,ti128,ca20,ca21,ca22,cf,Try.results6,hn3]
        · rw [left_no hh]
          simp only [zW,zX,zD,builtinA,isLeaf,const1,ustrA,simprocAttr,ti3,ti9,ti22,ti23,ti24,ti26,ti122,ti125,ti128,ca20,ca21,ca22,cf,Try.results6]
      · rw [left_no hg,left_no (a:=szU x) (by unfold szU; omega)]
        simp only [zW,zX,zD,builtinA,isLeaf,const1,ustrA,simprocAttr,ti3,ti9,ti22,ti23,ti24,ti26,ti122,ti125,ti128,ca20,ca21,ca22,cf,Try.results6]
    · rw [left_no hf,left_no (a:=szU x) (by unfold szU szUb; omega)]
      simp only [zW,zX,zD,builtinA,isLeaf,const1,ustrA,simprocAttr,ti3,ti9,ti22,ti23,ti24,ti26,ti122,ti125,ti128,ca20,ca21,ca22,cf,Try.results6]
set_option maxRecDepth 100000 in
theorem laws_toUnit (x : UnI) (hx : szU x ≤ 1048576) (A : List Box) : ACalls Try.prog 8 [.agg (uEA x)] A (fun v A'=>v = .agg (uE x) ∧ A' = A):=by
  have h1 : (x.params.length ≤ 1048576 ∧ szPs x.params ≤ 1048576) ∧ (x.body.length ≤ 1048576 ∧ szJs x.body ≤ 1048576) ∧ (x.face.length ≤ 1048576 ∧ szIs x.face ≤ 1048576):=by unfold szU szUb szUp at hx; omega
  rw [uEA,uE]
  refine acalls_enter (cf:=cf 20 [0,1,2,3]) foll Try.func8 Try.ntmps8 (by simp [cf]) ?_
  simp only [Try.f8,EnterK_some,zW,zX,zD,builtinA,isLeaf,const1,ustrA,simprocAttr,ti9,ti22,ti23,ti24,ti26,ti29,ti30,ti31,ti33,ti70,ti122,ti125,ti128,ti130,ti132,ca25,ca26,ca27,cf,Try.results8]
  refine callK_intro (by simp only [zW,zX,zD,builtinA,isLeaf,const1,ustrA,simprocAttr,Option.map_some]; rfl) (laws_toImportS x.params h1.1.1 h1.1.2 _) ?_ rfl; rintro v A' ⟨rfl,rfl⟩
  simp only [zW,zX,zD,builtinA,isLeaf,const1,ustrA,simprocAttr,ti9,ti22,ti23,ti24,ti26,ti29,ti30,ti31,ti33,ti70,ti122,ti125,ti128,ti130,ti132,ca25,ca26,ca27,cf,Try.results8]
  refine callK_intro (by simp only [zW,zX,zD,builtinA,isLeaf,const1,ustrA,simprocAttr,Option.map_some]; rfl) (laws_toItemS x.body h1.2.1.1 h1.2.1.2 _) ?_ rfl; rintro v A' ⟨rfl,rfl⟩
  simp only [zW,zX,zD,builtinA,isLeaf,const1,ustrA,simprocAttr,ti9,ti22,ti23,ti24,ti26,ti29,ti30,ti31,ti33,ti70,ti122,ti125,ti128,ti130,ti132,ca25,ca26,ca27,cf,Try.results8]
  refine callK_intro (by simp only [zW,zX,zD,builtinA,isLeaf,const1,ustrA,simprocAttr,Option.map_some]; rfl) (laws_toSigItemS x.face h1.2.2.1 h1.2.2.2 _) ?_ rfl; rintro v A' ⟨rfl,rfl⟩
  simp only [zW,zX,zD,builtinA,isLeaf,const1,ustrA,simprocAttr,ti9,ti22,ti23,ti24,ti26,ti29,ti30,ti31,ti33,ti70,ti122,ti125,ti128,ti130,ti132,ca25,ca26,ca27,cf,Try.results8]
set_option maxRecDepth 100000 in
theorem laws_eqUnit (x : UnI) (hx : x.Ok) (A : List Box) : ACalls Try.prog 10 [.agg (uE x),.agg (uE x)] A (fun v A'=>v = .bool true ∧ A' = A):=by
  obtain ⟨hx1,hx2,hx3,hx4⟩:=hx
  rw [uE]
  refine acalls_enter (cf:=cf 28 [0,1,2,3,4,9,15,21,27]) foll Try.func10 Try.ntmps10 (by simp [cf]) ?_
  simp only [Try.f10,EnterK_some,zW,zX,zD,builtinA,isLeaf,const1,ustrA,simprocAttr,ti9,ti29,ti30,ti31,ti33,ti70,ti130,ti132,ca30,ca31,ca32,cf,Try.results10]
  refine callK_intro (by simp only [zW,zX,zD,builtinA,isLeaf,const1,ustrA,simprocAttr,Option.map_some]; rfl) (laws_eqImportS x.params hx2.1 hx2.2 _) ?_ rfl; rintro v A' ⟨rfl,rfl⟩
  simp only [zW,zX,zD,builtinA,isLeaf,const1,ustrA,simprocAttr,ti9,ti29,ti30,ti31,ti33,ti70,ti130,ti132,ca30,ca31,ca32,cf,Try.results10]
  refine callK_intro (by simp only [zW,zX,zD,builtinA,isLeaf,const1,ustrA,simprocAttr,Option.map_some]; rfl) (laws_eqItemS x.body hx3.1 hx3.2 _) ?_ rfl; rintro v A' ⟨rfl,rfl⟩
  simp only [zW,zX,zD,builtinA,isLeaf,const1,ustrA,simprocAttr,ti9,ti29,ti30,ti31,ti33,ti70,ti130,ti132,ca30,ca31,ca32,cf,Try.results10]
  refine callK_intro (by simp only [zW,zX,zD,builtinA,isLeaf,const1,ustrA,simprocAttr,Option.map_some]; rfl) (laws_eqSigItemS x.face hx4.1 hx4.2 _) ?_ rfl; rintro v A' ⟨rfl,rfl⟩
  simp only [zW,zX,zD,builtinA,isLeaf,const1,ustrA,simprocAttr,ti9,ti29,ti30,ti31,ti33,ti70,ti130,ti132,ca30,ca31,ca32,cf,Try.results10]
theorem cU : Try.prog.cellsOf 26 = 4:=by kernel_rfl
theorem four_of {α : Type} {l : List α} (h : l.length = 4) : ∃ a b c d,l = [a,b,c,d]:=by
  match l,h with
  | [a,b,c,d],_=>exact ⟨a,b,c,d,rfl⟩
theorem un_of {cz : List AV} (h : Cells Try.prog 26 cz) : ∃ x : UnI,cz = uEA x ∧ x.Ok:=by
  generalize ht : 26 = t at h
  cases h with
  | int h1 h2=>subst ht; rw [Try.underlying26] at h1; injection h1 with h1; cases h1
  | bool h1=>subst ht; rw [Try.underlying26] at h1; injection h1 with h1; cases h1
  | str h1=>subst ht; rw [Try.underlying26] at h1; injection h1 with h1; cases h1
  | slice h1 h2 h3=>subst ht; rw [Try.underlying26] at h1; injection h1 with h1; cases h1
  | @struct t fs cs h1 h2 h3 =>
    subst ht
    rw [Try.underlying26] at h1
    injection h1 with h1
    injection h1 with h1
    subst h1
    rw [cU] at h2
    obtain ⟨a,b,c,d,rfl⟩:=four_of h2
    simp only [List.mem_cons,List.not_mem_nil,or_false,forall_eq_or_imp,forall_eq,c3,c9,cS,cT,cIS,cPS,cJS,List.drop_zero,List.drop_succ_cons,List.take_succ_cons,List.take_zero] at h3
    obtain ⟨m,e1,l1⟩:=cells_str Try.underlying9 h3.1
    obtain ⟨ps,e2,l2⟩:=pms_of h3.2.1
    obtain ⟨bs,e3,l3⟩:=its_of h3.2.2.1
    obtain ⟨fs,e4,l4⟩:=sis_of h3.2.2.2
    injection e1 with e1; injection e2 with e2; injection e3 with e3; injection e4 with e4
    subst e1; subst e2; subst e3; subst e4
    have hm : maxLen = 2 ^ 63 - 1:=rfl
    exact ⟨⟨m,ps,bs,fs⟩,rfl,⟨by show m.length < 2 ^ 63; omega,l2,l3,l4⟩⟩
theorem plainU : plainB Try.prog [26,22,122,23,125,42,40,24,128,39,37,3,9] = true:=by kernel_rfl
section
variable {H : Type} {enc' : TypeId × Value → H} {W : World}
set_option maxRecDepth 100000 in
theorem rv_unit {v : Value} {d : DataW H} {p : List MemPlace} {r : Reach} {b0 : Nat} (hval : Value.okWide Try.prog W r b0 26 v) (h : DataW.Trod enc' Try.prog W 0 (fun _=>true) true 26 v d p) :
    ∃ x : UnI,x.Ok ∧ RV (Abs.start W) W (.agg (uEA x)) v:=by
  obtain ⟨xs,rfl,hs⟩:=okWide_struct Try.underlying26 hval
  obtain ⟨fuel,hf⟩:=h
  have hmem : 26 ∈ [26,22,122,23,125,42,40,24,128,39,37,3,9]:=.head _
  have hp:=plain_opened plainU fuel hmem hf
  obtain ⟨cz,ho⟩:=hp
  have hq:=un_of ho.typed
  obtain ⟨x,he,hk⟩:=hq
  subst he
  exact ⟨x,hk,opened_agg ho⟩
end
end Go.Proofs.Ytijlnkfiadajhaa
/- The program's UnitSame answers whether two units are the same. -/
set_option linter.unusedVariables false
set_option linter.unusedSimpArgs false
namespace Go.Proofs.Ytijlnkfiadajhaa
open Go.Abs
def IB2 (i : Nat) (X : Box) (j : Nat) (Y : Box) (A : List Box) : Prop:=IBox i X A ∧ IBox j Y A
set_option maxRecDepth 100000 in
theorem impl_UnitSameI {UT : List LL} {UX : List SX.LL} {US : List SL} {UK : List KL} {UP : List CP.PL} (hU : KnU UT UX US UK UP) (x y : UnJ) (hx : InU US UK UP x) (hy : InU US UK UP y) (A : List Box) :
    ACalls Try.prog 9 [.agg (uJ x),.agg (uJ y)] A (fun r A'=>r = .bool (unJB x y) ∧ A' = A):=by
  have hcm:=fun it is bt ix ik ip h=>un_cmp hU x y hx hy it is bt ix ik ip h
  rw [uJ,uJ] at hcm ⊢
  refine acalls_enter (cf:=cf 9 [0,1,2,3,4]) foll Try.func9 Try.ntmps9 (by simp [cf]) ?_
  simp only [Try.f9,EnterK_some,zW,zX,zD,builtinA,isLeaf,const1,ustrA,simprocAttr,ti33,ca28,ca29,cf,Try.results9]
  refine .inr (drawI_intro (.pur 1 (.pur 2 (.or 0 (.or 3 (.pur 4 .done) .stop) .stop))) (IB2 A.length (.cells [.str x.name,CP.oVP x.params,oVK x.body,oV x.face]) (A.length + 1) (.cells [.str y.name,CP.oVP y.params,oVK y.body,oV y.face])) (by kernel_rfl) ?_ ?_)
  · exact ⟨⟨by simp,by simp⟩,by simp,by simp⟩
  refine wpI_pur_intro (v:=?_) _ rfl rfl (by decide) rfl (fun A' hI=>?_) ?_
  rotate_left
  · simp only [zW,zX,zD,builtinA,isLeaf,const1,ustrA,simprocAttr,ti33,ca28,ca29,cf,Try.results9,hI.1,hI.2,hI.1.1,hI.1.2,hI.2.1,hI.2.2]
    first | exact ⟨rfl,rfl⟩ | exact rfl
  refine wpI_pur_intro (v:=?_) _ rfl rfl (by decide) rfl (fun A' hI=>?_) ?_
  rotate_left
  · simp only [zW,zX,zD,builtinA,isLeaf,const1,ustrA,simprocAttr,ti33,ca28,ca29,cf,Try.results9,hI.1,hI.2,hI.1.1,hI.1.2,hI.2.1,hI.2.2]
    first | exact ⟨rfl,rfl⟩ | exact rfl
  simp only [zW,zX,zD,builtinA,isLeaf,const1,ustrA,simprocAttr,ti33,ca28,ca29,cf,Try.results9,wpI_or_eq,wpI_stop_eq,wpI_done_eq]
  refine callK_intro (by simp only [zW,zX,zD,builtinA,isLeaf,const1,ustrA,simprocAttr]; rfl) (uc_new _) ?_ rfl
  rintro r A' ⟨it,is,bt,ix,ik,ip,B,rfl,hA',⟨g1,g2,g3,g4,g5,g6⟩,hd,h1,h2,h3,h4,h5,h6⟩
  simp only [List.length_append,List.length_cons,List.length_nil] at g1 g2 g3 g4 g5 g6
  have hI2 : IB2 A.length (.cells [.str x.name,CP.oVP x.params,oVK x.body,oV x.face]) (A.length + 1) (.cells [.str y.name,CP.oVP y.params,oVK y.body,oV y.face]) A':=by
    rw [hA',List.append_assoc]
    exact ⟨⟨by rw [Abs.getD_append_right (Nat.le_refl _),Nat.sub_self]; rfl,by simp⟩,by rw [Abs.getD_append_right (by omega),show A.length + 1 - A.length = 1 by omega]; rfl,by simp⟩
  have hIU : IU UT UX US UK UP it is bt ix ik ip A':=⟨⟨⟨⟨⟨ne_dead h1 (by simp),[],h1,⟨[],⟨by simp,by simp,by simp⟩,by simp⟩⟩,CG.ClM.new _ _ _ (ne_dead h2 (by simp)) h2⟩,CG.ClM.new _ _ _ (ne_dead h6 (by simp)) h6⟩,ne_dead h4 (by simp),[],h4,⟨[],⟨by simp,by simp,by simp⟩,by simp⟩⟩,h3,CG.ClM.new _ _ _ (ne_dead h5 (by simp)) h5⟩
  have hfr : ∃ C,A' = A ++ C:=⟨_,by rw [hA',List.append_assoc]⟩
  clear hA'
  simp only [zW,zX,zD,builtinA,isLeaf,const1,ustrA,simprocAttr,ti33,ca28,ca29,cf,Try.results9,wpI_or_eq,wpI_stop_eq,wpI_done_eq]
  refine ⟨hI2,?_⟩
  refine callO_intro (hcm it is bt ix ik ip hd _ hIU) ?_
  rintro r A2 ⟨rfl,hc,_⟩
  have hI3 : IB2 A.length (.cells [.str x.name,CP.oVP x.params,oVK x.body,oV x.face]) (A.length + 1) (.cells [.str y.name,CP.oVP y.params,oVK y.body,oV y.face]) A2:=by
    have hk : ∀ k,k < A.length + 2 → A2.getD k .dead = A'.getD k .dead:=fun k hk=>hc.2.1 k (by simp; omega)
    have hl:=hc.1
    exact ⟨⟨(hk _ (by omega)).trans hI2.1.1,by have:=hI2.1.2; omega⟩,(hk _ (by omega)).trans hI2.2.1,by have:=hI2.2.2; omega⟩
  obtain ⟨C,rfl⟩:=hfr
  obtain ⟨q1,q2⟩:=Chg.far (S:=[it,is,ip,ix,ik]) (A:=A) (L:=C) hc fun k hk=>by
    simp only [List.mem_cons,List.not_mem_nil,or_false] at hk
    omega
  simp only [zW,zX,zD,builtinA,isLeaf,const1,ustrA,simprocAttr,ti33,ca28,ca29,cf,Try.results9,wpI_or_eq,wpI_stop_eq,wpI_done_eq,q2]
  refine ⟨hI3,?_⟩
  refine wpI_pur_intro (v:=?_) _ rfl rfl (by decide) rfl (fun A' hI=>?_) ?_
  rotate_left
  · simp only [zW,zX,zD,builtinA,isLeaf,const1,ustrA,simprocAttr,ti33,ca28,ca29,cf,Try.results9,hI.1,hI.2]
    first | exact ⟨rfl,rfl⟩ | exact rfl
  simp only [zW,zX,zD,builtinA,isLeaf,const1,ustrA,simprocAttr,ti33,ca28,ca29,cf,Try.results9,wpI_or_eq,wpI_stop_eq,wpI_done_eq,q2]
  exact q1
end Go.Proofs.Ytijlnkfiadajhaa
/- Units in their places: what the memory of the arguments says. -/
set_option linter.unusedVariables false
set_option linter.unusedSimpArgs false
namespace Go.Proofs.Ytijlnkfiadajhaa
open Go.Abs
def PLok (G : Ghost) (w : World) (x : CP.PL) : Prop:=∃ Y : Nat → Nat → Value,(∀ t ∈ x.ks,KnP G w t) ∧ ∀ i,i < x.ks.length → (∀ j,j < 2 → RV G w ((qE (x.ks.getD i mj0)).getD j .bot) (Y i j)) ∧ ∀ j,j < 2 → w.cell? ⟨x.b,x.off + (i * 2 + j),none⟩ = some (Y i j)
theorem qE_uniq {G : Ghost} {w : World} (s t : ImJ) (X : Nat → Value) (hs : KnP G w s) (ht : KnP G w t) (h : ∀ j,j < 2 → RV G w ((qE s).getD j .bot) (X j)) (h' : ∀ j,j < 2 → RV G w ((qE t).getD j .bot) (X j)) : s = t:=by
  have h0:=h 0 (by decide)
  have h1:=h 1 (by decide)
  have g0:=h' 0 (by decide)
  have g1:=h' 1 (by decide)
  have hs2:=hs.2
  have ht2:=ht.2
  obtain ⟨n,o⟩:=s
  obtain ⟨n',o'⟩:=t
  simp only [qE,List.getD_cons_zero,List.getD_cons_succ] at h0 h1 g0 g1
  have e:=oV_uniq h1 g1 hs2 ht2
  generalize X 0 = v0 at h0 g0
  have e0 : n = n':=by cases h0; cases g0; rfl
  subst e0; subst e
  rfl
theorem PLok.inj {G : Ghost} {w : World} {x y : CP.PL} (hx : PLok G w x) (hy : PLok G w y) (h : x.idn = y.idn) : x = y:=by
  obtain ⟨X,n1,h1⟩:=hx
  obtain ⟨Y,n2,h2⟩:=hy
  have h0:=h
  simp only [CP.PL.idn,Prod.mk.injEq] at h
  obtain ⟨e1,e2,e3⟩:=h
  have hk : x.ks = y.ks:=by
    apply List.ext_getElem e3
    intro i hi hi'
    obtain ⟨a1,a2⟩:=h1 i hi
    obtain ⟨b1,b2⟩:=h2 i hi'
    have xe : ∀ j,j < 2 → X i j = Y i j:=fun j hj=>by
      have c1:=a2 j hj
      have c2:=b2 j hj
      rw [e1,e2,c2] at c1
      injection c1 with c1
      exact c1.symm
    have g1 : x.ks.getD i mj0 = x.ks[i]:=by simp [List.getD,hi]
    have g2 : y.ks.getD i mj0 = y.ks[i]:=by simp [List.getD,hi']
    rw [g1] at a1
    rw [g2] at b1
    exact qE_uniq _ _ (X i) (n1 _ (List.getElem_mem hi)) (n2 _ (List.getElem_mem hi')) a1 fun j hj=>by rw [xe j hj]; exact b1 j hj
  obtain ⟨b,o,hd,tl⟩:=x
  obtain ⟨b',o',hd',tl'⟩:=y
  simp only [CP.PL.ks,List.cons.injEq] at hk e1 e2
  obtain ⟨rfl,rfl⟩:=hk
  subst e1; subst e2
  rfl
theorem SLok.eq {G : Ghost} {w : World} {x y : SL} (hx : SLok G w x) (hy : SLok G w y) (h : x.idn = y.idn) : x = y:=SL.eq_of h (hx.inj hy h)
theorem KLok.eq {G : Ghost} {w : World} {x y : KL} (hx : KLok G w x) (hy : KLok G w y) (h : x.idn = y.idn) : x = y:=by
  have hk:=hx.inj hy h
  obtain ⟨b,o,hd,tl⟩:=x
  obtain ⟨b',o',hd',tl'⟩:=y
  simp only [KL.idn,KL.ks,Prod.mk.injEq,List.cons.injEq] at h hk
  obtain ⟨rfl,rfl,_⟩:=h
  obtain ⟨rfl,rfl⟩:=hk
  rfl
theorem annotP {G : Ghost} {w : World} (a : List ImI) (v : Value) (h : RV G w (.slice (pEs a)) v) : ∃ o : Option CP.PL,(CP.oKP o).map erP = a ∧ RV G w (CP.oVP o) v ∧ (∀ x ∈ CP.oKP o,KnP G w x) ∧ ∀ x,o = some x → PLok G w x:=by
  rcases Classical.em (a = []) with rfl | hne
  · exact ⟨none,rfl,h,by simp [CP.oKP],by simp⟩
  · generalize hr0 : pEs a = rows0 at h
    cases h with
    | slice0=>exact absurd (List.map_eq_nil_iff.1 hr0) hne
    | sliceE=>exact absurd (List.map_eq_nil_iff.1 hr0) hne
    | slice _ b off cap sz X hr hcap hx hI hz hh =>
      subst hr0
      have hla : 0 < a.length:=List.length_pos_iff.2 hne
      have hsz : sz = 2:=by
        have:=(hr (pE (a.getD 0 pm0)) (List.mem_map.2 ⟨_,pm_mem hla,rfl⟩)).1
        rw [← this,pE_length]
      subst hsz
      have hrow : ∀ i,i < a.length → RV G w (.str (a.getD i pm0).name) (X i 0) ∧ RV G w (.slice (sEs (a.getD i pm0).sig)) (X i 1):=fun i hi=>by
        have h0:=hh i 0 (by rw [pEs_length]; exact hi) (by omega)
        have h1:=hh i 1 (by rw [pEs_length]; exact hi) (by omega)
        unfold Abs.rowAt at h0 h1
        rw [pEs_getD hi] at h0 h1
        exact ⟨h0,h1⟩
      have hex : ∀ i,∃ o : Option SL,i < a.length → (oK o).map erJ = (a.getD i pm0).sig ∧ RV G w (oV o) (X i 1) ∧ (∀ x ∈ oK o,norm x.typ ∧ ∀ z ∈ lists x.typ,LLok G w z) ∧ ∀ x,o = some x → SLok G w x:=fun i=>by
        rcases Nat.lt_or_ge i a.length with hi | hi
        · obtain ⟨o,h1,h2,h3,h4⟩:=annotS _ _ (hrow i hi).2
          exact ⟨o,fun _=>⟨h1,h2,h3,h4⟩⟩
        · exact ⟨none,fun h=>by omega⟩
      obtain ⟨T,hT⟩:=Classical.axiomOfChoice hex
      obtain ⟨L,hL⟩ : ∃ L,L = (List.range a.length).map fun i=>(⟨(a.getD i pm0).name,T i⟩ : ImJ):=⟨_,rfl⟩
      have hlen : L.length = a.length:=by rw [hL]; simp
      have hget : ∀ i,i < a.length → L.getD i mj0 = ⟨(a.getD i pm0).name,T i⟩:=fun i hi=>by rw [hL]; simp [List.getD,hi]
      have hcell : ∀ i j,i < a.length → j < 2 → RV G w ((qE (L.getD i mj0)).getD j .bot) (X i j):=fun i j hi hj=>by
        rw [hget i hi]
        match j,hj with
        | 0,_=>exact (hrow i hi).1
        | 1,_=>exact (hT i hi).2.1
      have hkn : ∀ x ∈ L,KnP G w x:=fun x hx=>by
        rw [hL] at hx
        obtain ⟨i,hi,rfl⟩:=List.mem_map.1 hx
        have:=hT i (by simpa using hi)
        exact ⟨this.2.2.1,this.2.2.2⟩
      have hmap : L.map erP = a:=by
        rw [hL]
        apply List.ext_getElem (by simp)
        intro i h1 h2
        have hi : i < a.length:=h2
        have e : a.getD i pm0 = a[i]:=by simp [List.getD,hi]
        simp only [List.getElem_map,List.getElem_range,erP,(hT i hi).1]
        rw [e]
      clear hL
      match L,hlen with
      | [],hlen=>simp at hlen; omega
      | u :: us,hlen =>
        have hk : (⟨b,off,u,us⟩ : CP.PL).ks = u :: us:=rfl
        have hjl : (qEs (u :: us)).length = (pEs a).length:=by rw [qEs_length,pEs_length,hlen]
        refine ⟨some ⟨b,off,u,us⟩,hmap,?_,hkn,fun x hx=>?_⟩
        · have := RV.islice (G := G) (w := w) (qEs (u :: us)) b off cap 2 X (fun r hr' => by
              obtain ⟨x,_,rfl⟩:=List.mem_map.1 hr'
              exact ⟨qE_length x,qE_leaf x⟩) (by rw [hjl]; exact hcap) (fun i j hi hj=>hx i j (by rw [← hjl]; exact hi) hj) (fun i j hi hj=>hI i j (by rw [← hjl]; exact hi) hj) (hz (by rw [pEs_length]; exact hla) (by decide)) (by decide) (by rw [hjl,pEs_length]; exact hla) (fun i j hi hj=>by
              unfold Go.Abs.rowAt
              rw [qEs_getD (by rw [qEs_length] at hi; exact hi)]
              exact hcell i j (by rw [qEs_length,hlen] at hi; exact hi) hj)
          rw [hjl] at this
          exact this
        · cases hx
          exact ⟨X,hkn,fun i hi=>⟨fun j hj=>hcell i j (by rw [hk,hlen] at hi; exact hi) hj,fun j hj=>hx i j (by rw [hk,hlen] at hi; rw [pEs_length]; exact hi) hj⟩⟩
def erU (x : UnJ) : UnI:=⟨x.name,(CP.oKP x.params).map erP,(oKK x.body).map erK,(oK x.face).map erJ⟩
structure KnUn (G : Ghost) (w : World) (x : UnJ) : Prop where
  p1 : ∀ t ∈ CP.oKP x.params,KnP G w t
  p2 : ∀ l,x.params = some l → PLok G w l
  b1 : ∀ t ∈ oKK x.body,KnJ G w t
  b2 : ∀ l,x.body = some l → KLok G w l
  f1 : ∀ t ∈ oK x.face,norm t.typ ∧ ∀ z ∈ lists t.typ,LLok G w z
  f2 : ∀ l,x.face = some l → SLok G w l
theorem annotU {G : Ghost} {w : World} (u : UnI) (X : Nat → Value) (h : ∀ j,j < 4 → RV G w ((uE u).getD j .bot) (X j)) : ∃ x : UnJ,erU x = u ∧ (∀ j,j < 4 → RV G w ((uJ x).getD j .bot) (X j)) ∧ KnUn G w x:=by
  have h0:=h 0 (by decide)
  obtain ⟨o1,e1,r1,k1,l1⟩:=annotP u.params _ (h 1 (by decide))
  obtain ⟨o2,e2,r2,k2,l2⟩:=annotK u.body _ (h 2 (by decide))
  obtain ⟨o3,e3,r3,k3,l3⟩:=annotS u.face _ (h 3 (by decide))
  refine ⟨⟨u.name,o1,o2,o3⟩,?_,fun j hj=>?_,⟨k1,l1,k2,l2,k3,l3⟩⟩
  · obtain ⟨n,ps,bs,fs⟩:=u
    simp only at e1 e2 e3
    simp only [erU,e1,e2,e3]
  · match j,hj with
    | 0,_=>exact h0
    | 1,_=>exact r1
    | 2,_=>exact r2
    | 3,_=>exact r3
def sigsU (x : UnJ) : List SL:=(CP.oKP x.params).filterMap (·.sig) ++ x.face.toList
def TofU (ss : List SL) (ks : List KL) (es : List SX.IEx) : List LL:=((ss.flatMap SL.ks).flatMap fun x=>lists x.typ) ++ (((ks.flatMap KL.ks).flatMap fun x=>lists x.typ ++ SX.argL x.ex) ++ es.flatMap SX.argL)
def XofU (ks : List KL) (es : List SX.IEx) : List SX.LL:=((ks.flatMap KL.ks).flatMap fun x=>SX.lists x.ex) ++ es.flatMap SX.lists
def szXs2 (es : List SX.IEx) : Nat:=(es.map fun e=>szX (SX.erase e)).sum
theorem lensE (es : List SX.IEx) : (es.flatMap SX.argL).length ≤ szXs2 es ∧ (es.flatMap SX.lists).length ≤ szXs2 es:=by
  induction es with
  | nil=>simp [szXs2]
  | cons x a ih =>
    have h2:=SX.argL_len x
    have h3:=SX.lists_len x
    simp only [List.flatMap_cons,List.length_append,szXs2,List.map_cons,List.sum_cons] at ih ⊢
    omega
theorem szX2_mem {e : SX.IEx} {es : List SX.IEx} (h : e ∈ es) : szX (SX.erase e) ≤ szXs2 es:=by
  induction es with
  | nil=>simp at h
  | cons x a ih =>
    simp only [szXs2,List.map_cons,List.sum_cons] at ih ⊢
    rcases List.mem_cons.1 h with rfl | h
    · omega
    · have:=ih h; omega
theorem kn_of {G : Ghost} {w : World} (ss : List SL) (ks : List KL) (es : List SX.IEx)
    (hs : ∀ s ∈ ss,SLok G w s ∧ ∀ t ∈ s.ks,∀ z ∈ lists t.typ,LLok G w z) (hk : ∀ k ∈ ks,KLok G w k ∧ ∀ t ∈ k.ks,KnJ G w t) (he : ∀ e ∈ es,(∀ z ∈ SX.lists e,SX.LLok G w z) ∧ ∀ z ∈ SX.argL e,LLok G w z)
    (zs : szIs ((ss.flatMap SL.ks).map erJ) ≤ 10000000) (zk : szJs ((ks.flatMap KL.ks).map erK) ≤ 10000000) (ze : szXs2 es ≤ 10000000) (ls : ∀ s ∈ ss,s.ks.length ≤ 1048576) (lk : ∀ k ∈ ks,k.ks.length ≤ 1048576) :
    Kn (TofU ss ks es) (XofU ks es) ss ks:=by
  have n1:=lens_items (ss.flatMap SL.ks)
  have n2:=lensK (ks.flatMap KL.ks)
  have n3:=lensE es
  have mS : ∀ {t : SigJ},t ∈ ss.flatMap SL.ks → ∀ z ∈ lists t.typ,z ∈ TofU ss ks es:=fun ht z hz=>List.mem_append_left _ (List.mem_flatMap.2 ⟨_,ht,hz⟩)
  have mK : ∀ {t : ItJ},t ∈ ks.flatMap KL.ks → ∀ z ∈ lists t.typ ++ SX.argL t.ex,z ∈ TofU ss ks es:=fun ht z hz=>List.mem_append_right _ (List.mem_append_left _ (List.mem_flatMap.2 ⟨_,ht,hz⟩))
  have mE : ∀ {e : SX.IEx},e ∈ es → ∀ z ∈ SX.argL e,z ∈ TofU ss ks es:=fun ht z hz=>List.mem_append_right _ (List.mem_append_right _ (List.mem_flatMap.2 ⟨_,ht,hz⟩))
  have xK : ∀ {t : ItJ},t ∈ ks.flatMap KL.ks → ∀ z ∈ SX.lists t.ex,z ∈ XofU ks es:=fun ht z hz=>List.mem_append_left _ (List.mem_flatMap.2 ⟨_,ht,hz⟩)
  have xE : ∀ {e : SX.IEx},e ∈ es → ∀ z ∈ SX.lists e,z ∈ XofU ks es:=fun ht z hz=>List.mem_append_right _ (List.mem_flatMap.2 ⟨_,ht,hz⟩)
  have cT : ∀ {p : LL},p ∈ TofU ss ks es → (∃ t ∈ ss.flatMap SL.ks,p ∈ lists t.typ) ∨ (∃ t ∈ ks.flatMap KL.ks,p ∈ lists t.typ ++ SX.argL t.ex) ∨ ∃ e ∈ es,p ∈ SX.argL e:=fun hp=>by
    rcases List.mem_append.1 hp with h | h
    · exact .inl (List.mem_flatMap.1 h)
    · rcases List.mem_append.1 h with h | h
      · exact .inr (.inl (List.mem_flatMap.1 h))
      · exact .inr (.inr (List.mem_flatMap.1 h))
  have cX : ∀ {p : SX.LL},p ∈ XofU ks es → (∃ t ∈ ks.flatMap KL.ks,p ∈ SX.lists t.ex) ∨ ∃ e ∈ es,p ∈ SX.lists e:=fun hp=>by
    rcases List.mem_append.1 hp with h | h
    · exact .inl (List.mem_flatMap.1 h)
    · exact .inr (List.mem_flatMap.1 h)
  have okS : ∀ t ∈ ss.flatMap SL.ks,∀ z ∈ lists t.typ,LLok G w z:=fun t ht=>by
    obtain ⟨s,h1,h2⟩:=List.mem_flatMap.1 ht
    exact (hs s h1).2 t h2
  have okK : ∀ t ∈ ks.flatMap KL.ks,KnJ G w t:=fun t ht=>by
    obtain ⟨s,h1,h2⟩:=List.mem_flatMap.1 ht
    exact (hk s h1).2 t h2
  have okT : ∀ p ∈ TofU ss ks es,LLok G w p:=fun p hp=>by
    rcases cT hp with ⟨t,h1,h2⟩ | ⟨t,h1,h2⟩ | ⟨e,h1,h2⟩
    · exact okS t h1 p h2
    · rcases List.mem_append.1 h2 with h | h
      · exact (okK t h1).1 p h
      · exact (okK t h1).2.2 p h
    · exact (he e h1).2 p h2
  have okX : ∀ p ∈ XofU ks es,SX.LLok G w p:=fun p hp=>by
    rcases cX hp with ⟨t,h1,h2⟩ | ⟨e,h1,h2⟩
    · exact (okK t h1).2.1 p h2
    · exact (he e h1).1 p h2
  have oneS : ∀ t ∈ ss.flatMap SL.ks,sz (erase t.typ) ≤ 10000000:=fun t ht=>by
    have h1:=szIs_mem (x:=erJ t) (l:=(ss.flatMap SL.ks).map erJ) (List.mem_map.2 ⟨t,ht,rfl⟩)
    have h2 : sz (erase t.typ) ≤ szI (erJ t):=by simp only [szI,erJ]; omega
    omega
  have oneK : ∀ t ∈ ks.flatMap KL.ks,szJ (erK t) ≤ 10000000:=fun t ht=>by
    have h1:=szJs_mem (x:=erK t) (l:=(ks.flatMap KL.ks).map erK) (List.mem_map.2 ⟨t,ht,rfl⟩)
    omega
  have oneE : ∀ e ∈ es,szX (SX.erase e) ≤ 10000000:=fun e he=>by have:=szX2_mem he; omega
  have hStU : StU (TofU ss ks es) (XofU ks es):=by
    refine ⟨⟨fun p hp q hq he=>(okX p hp).inj (okX q hq) he,fun p hp u hu z hz=>?_⟩,by rw [XofU,List.length_append]; omega,fun z hz=>?_,⟨⟨fun p hp q hq he=>(okT p hp).inj (okT q hq) he,fun p hp u hu z hz=>?_⟩,by rw [TofU,List.length_append,List.length_append]; omega,fun z hz=>?_⟩,fun p hp u hu=>⟨fun z hz=>?_⟩⟩
    · rcases cX hp with ⟨t,h1,h2⟩ | ⟨e,h1,h2⟩
      · exact xK h1 _ (SX.lists_down t.ex p h2 u hu z hz)
      · exact xE h1 _ (SX.lists_down e p h2 u hu z hz)
    · rcases cX hz with ⟨t,h1,h2⟩ | ⟨e,h1,h2⟩
      · have:=SX.lists_ks z t.ex h2; have:=szJ_erK t; have:=oneK t h1; omega
      · have:=SX.lists_ks z e h2; have:=oneE e h1; omega
    · rcases cT hp with ⟨t,h1,h2⟩ | ⟨t,h1,h2⟩ | ⟨e,h1,h2⟩
      · exact mS h1 _ (lists_down t.typ p h2 u hu z hz)
      · rcases List.mem_append.1 h2 with h | h
        · exact mK h1 _ (List.mem_append_left _ (lists_down t.typ p h u hu z hz))
        · exact mK h1 _ (List.mem_append_right _ (SX.argL_down t.ex p h u hu z hz))
      · exact mE h1 _ (SX.argL_down e p h2 u hu z hz)
    · rcases cT hz with ⟨t,h1,h2⟩ | ⟨t,h1,h2⟩ | ⟨e,h1,h2⟩
      · have:=lists_ks z t.typ h2; have:=oneS t h1; omega
      · have h3:=szJ_erK t
        have h4:=oneK t h1
        rcases List.mem_append.1 h2 with h | h
        · have:=lists_ks z t.typ h; omega
        · have:=SX.argL_ks z t.ex h; omega
      · have:=SX.argL_ks z e h2; have:=oneE e h1; omega
    · rcases cX hp with ⟨t,h1,h2⟩ | ⟨e,h1,h2⟩
      · exact mK h1 _ (List.mem_append_right _ (SX.argL_lists t.ex p h2 u hu z (SX.argL_own u z (tLists_top hz))))
      · exact mE h1 _ (SX.argL_lists e p h2 u hu z (SX.argL_own u z (tLists_top hz)))
  refine ⟨hStU,fun x hx y hy h=>(hs x hx).1.eq (hs y hy).1 h,fun s h=>⟨fun t ht=>⟨fun z hz=>mS (List.mem_flatMap.2 ⟨s,h,ht⟩) _ (by rw [lists_eq hz]; simp)⟩,ls s h⟩,fun x hx y hy h=>(hk x hx).1.eq (hk y hy).1 h,fun s h=>⟨fun t ht=>?_,lk s h⟩⟩
  have hm : t ∈ ks.flatMap KL.ks:=List.mem_flatMap.2 ⟨s,h,ht⟩
  exact ⟨⟨fun z hz=>mK hm _ (List.mem_append_left _ (by rw [lists_eq hz]; simp))⟩,fun z hz=>xK hm _ (by rw [SX.lists_eq hz]; simp),⟨fun z hz=>mK hm _ (List.mem_append_right _ (SX.argL_own t.ex z (tLists_top hz)))⟩⟩
end Go.Proofs.Ytijlnkfiadajhaa
