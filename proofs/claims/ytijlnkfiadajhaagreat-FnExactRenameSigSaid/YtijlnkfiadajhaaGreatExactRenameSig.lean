/- For every list of items and every two names the program's RenameSig answers as the model's RenameSig does, in every field; what it hands back is memory of its own, which neither writing into the arguments nor a second call changes, and the arguments are not changed. No condition beside the row's own. -/
import Derived.Test.YtijlnkfiadajhaaGreatK10
set_option linter.unusedVariables false
set_option linter.unusedSimpArgs false
namespace Go.Proofs.YtijlnkfiadajhaaGreat
open Go.Abs Go.RowKit Go.ChangeShapes Go.WideShapes Go.ChangeAt Go.ChangeMaps
set_option maxRecDepth 100000 in
set_option maxHeartbeats 4000000 in
theorem exactRenameSig_true (s : List SigI) (hso : SigsOk s) (nm nt : List UInt8) : ACalls Tryz.prog 5 [.aslice (sEAs s),.str nm,.str nt] [] (fun v _=>v = .bool true):=by
  obtain ⟨hbl,hbo⟩:=hso
  have hszb:=fun A l h1 h2=>laws_szSigItemS s hbl hbo l A h1 h2
  by_cases hl2 : nt.length ≤ 1048576
  rotate_left
  · have hd2 : decide ((1048576 : Int) < (nt.length : Int)) = true:=decide_eq_true (by omega)
    by_cases hl : nm.length ≤ 1048576
    · have hd : decide ((1048576 : Int) < (nm.length : Int)) = false:=decide_eq_false (by omega)
      refine acalls_enter (cf:=cf 112 [0,1,2,6,7,8,9,10,11,12,13,14,15,16,17,20,23,28,54,59,75,83,86,103,108,111]) foll Tryz.func5 Tryz.ntmps5 (by simp [cf]) ?_
      simp only [Tryz.f5,EnterK_some,zW,zX,zD,builtinA,isLeaf,const1,ustrA,simprocAttr,ti3,ti4,ti9,ca22,ca23,ca24,ca25,ca26,ca27,ca28,cf,Tryz.results5]
      simp only [zW,zX,zD,builtinA,isLeaf,const1,ustrA,simprocAttr,ti3,ti4,ti9,ca22,ca23,ca24,ca25,ca26,ca27,ca28,cf,Tryz.results5,hd,hd2]
    · have hd : decide ((1048576 : Int) < (nm.length : Int)) = true:=decide_eq_true (by omega)
      refine acalls_enter (cf:=cf 112 [0,1,2,6,7,8,9,10,11,12,13,14,15,16,17,20,23,28,54,59,75,83,86,103,108,111]) foll Tryz.func5 Tryz.ntmps5 (by simp [cf]) ?_
      simp only [Tryz.f5,EnterK_some,zW,zX,zD,builtinA,isLeaf,const1,ustrA,simprocAttr,ti3,ti4,ti9,ca22,ca23,ca24,ca25,ca26,ca27,ca28,cf,Tryz.results5]
      simp only [zW,zX,zD,builtinA,isLeaf,const1,ustrA,simprocAttr,ti3,ti4,ti9,ca22,ca23,ca24,ca25,ca26,ca27,ca28,cf,Tryz.results5,hd]
  have hd2 : decide ((1048576 : Int) < (nt.length : Int)) = false:=decide_eq_false (by omega)
  by_cases hl : nm.length ≤ 1048576
  · have hd : decide ((1048576 : Int) < (nm.length : Int)) = false:=decide_eq_false (by omega)
    by_cases hs2 : ((s.length + szIs s : Nat) : Int) ≤ 1048576
    · have hv2 : left 1048576 (s.length + szIs s) = 1048576 - (s.length + szIs s : Nat):=by rw [left,if_pos (by omega)]
      have hn2 : decide ((1048576 : Int) - (s.length + szIs s : Nat) < 0) = false:=decide_eq_false (by omega)
      have hbz : ∀ b ∈ s,szI b ≤ 1048576:=fun b hb=>by have:=szIs_mem hb; omega
      have hbo2 : ∀ x ∈ s,x.Ok ∧ sz x.typ ≤ 1048576:=fun x hx=>⟨hbo x hx,by have:=hbz x hx; rw [szI] at this; omega⟩
      obtain ⟨o,ho⟩:=rdR_ex s nm nt
      obtain ⟨xs,hxs⟩ : ∃ xs,xs = nrX o:=⟨_,rfl⟩
      have hx1:=renX_ok hbo ho
      rw [← hxs] at hx1
      obtain ⟨hxl,hxo,hxc⟩:=hx1
      have hspec : ∀ A,ACalls Tryz.prog 23 [.slice (sEs s),.str nm,.str nt] A (fun r A'=>r = .tuple [.slice (sEs xs),.bool o.isSome] ∧ A' = A):=fun A=>(spec_RenameSig s (by omega) hbo2 nm nt A).mono fun r A' h=>by
        obtain ⟨o',h1,h2,h3⟩:=h
        rw [rdR_eq h1 ho] at h2
        exact ⟨by rw [h2,hxs]; cases o <;> rfl,h3⟩
      have himpl : ∀ A,ACalls Tryz.prog 25 [.slice (sEs s),.str nm,.str nt] A (SgNew A xs o.isSome):=sg_call fun A=>(impl_RenameSig s (by omega) hbo2 nm nt A).mono fun r A' h=>by
        obtain ⟨o',h1,h2⟩:=h
        rw [rdR_eq h1 ho] at h2
        rw [hxs]; exact h2
      have himb : ∀ (A : List Box) (args : List AV),Views A args [.slice (sEs s),.str nm,.str nt] → ACalls Tryz.prog 25 args A (SgNew A xs o.isSome):=fun A args h=>sg_view himpl h
      generalize o.isSome = ok at hspec himpl himb
      clear ho hxs
      have htob:=laws_toSigItemS s (by omega) (by omega)
      have heqb:=laws_eqSigItemS s hbl hbo
      have heqx:=laws_eqSigItemS xs (by omega) hxo
      have htbn:=toSigIS_own s (by omega) hbz
      have htb:=totG_sz s
      have hge1 : decide ((1 : Int) + (totG s : Int) < 0) = false:=decide_eq_false (by omega)
      have hge2 : decide ((1 : Int) + (totG xs : Int) < 0) = false:=decide_eq_false (by omega)
      have hne : ∀ x : Int,decide (¬ x = x) = false:=fun x=>by simp
      have hnb : decide (¬ ok = ok) = false:=by simp
      refine acalls_enter (cf:=cf 112 [0,1,2,6,7,8,9,10,11,12,13,14,15,16,17,20,23,28,54,59,75,83,86,103,108,111]) foll Tryz.func5 Tryz.ntmps5 (by simp [cf]) ?_
      simp only [Tryz.f5,EnterK_some,zW,zX,zD,builtinA,isLeaf,const1,ustrA,simprocAttr,ti3,ti4,ti9,ca22,ca23,ca24,ca25,ca26,ca27,ca28,cf,Tryz.results5]
      simp only [zW,zX,zD,builtinA,isLeaf,const1,ustrA,simprocAttr,ti3,ti4,ti9,ca22,ca23,ca24,ca25,ca26,ca27,ca28,cf,Tryz.results5,hd,hd2]
      refine callK_intro (by simp only [zW,zX,zD,builtinA,isLeaf,const1,ustrA,simprocAttr,Option.map_some]; rfl) (hszb _ _ (by omega) (by omega)) ?_ rfl; rintro v A' ⟨rfl,rfl⟩
      rw [hv2]
      simp only [zW,zX,zD,builtinA,isLeaf,const1,ustrA,simprocAttr,ti3,ti4,ti9,ca22,ca23,ca24,ca25,ca26,ca27,ca28,cf,Tryz.results5,hn2]
      refine callK_intro (by simp only [zW,zX,zD,builtinA,isLeaf,const1,ustrA,simprocAttr,Option.map_some]; rfl) (htob _) ?_ rfl; rintro v A' ⟨rfl,rfl⟩
      simp only [zW,zX,zD,builtinA,isLeaf,const1,ustrA,simprocAttr,ti3,ti4,ti9,ca22,ca23,ca24,ca25,ca26,ca27,ca28,cf,Tryz.results5]
      refine callK_intro (by simp only [zW,zX,zD,builtinA,isLeaf,const1,ustrA,simprocAttr,Option.map_some]; rfl) (hspec _) ?_ rfl; rintro v A' ⟨rfl,rfl⟩
      simp only [zW,zX,zD,builtinA,isLeaf,const1,ustrA,simprocAttr,ti3,ti4,ti9,ca22,ca23,ca24,ca25,ca26,ca27,ca28,cf,Tryz.results5]
      refine callK_intro (by simp only [zW,zX,zD,builtinA,isLeaf,const1,ustrA,simprocAttr,Option.map_some] <;> rfl) (htbn _) ?_ rfl
      rintro r A4 ⟨jb,rfl,hle4,hf4,rowsb,Sb,hgb,hRb,hNb,hgeb⟩
      have hlb : ∀ i ∈ jb :: Sb,i < A4.length:=fun i hi=>by
        rcases List.mem_cons.1 hi with rfl | hi
        · exact live_lt hgb (by simp)
        · exact hRb.low i hi
      clear hf4
      simp only [zW,zX,zD,builtinA,isLeaf,const1,ustrA,simprocAttr,ti3,ti4,ti9,ca22,ca23,ca24,ca25,ca26,ca27,ca28,cf,Tryz.results5]
      refine callO_intro (himb _ _ (.cons (OwnG.viewG hgb hRb) (.cons (.leaf _ rfl) (.cons (.leaf _ rfl) .nil)))) ?_
      rintro r A5 ⟨B5,v,S5,hA5,hB5,rfl,hv5,hK5,hN5,hR5⟩
      have f5 : ∀ i,i < A4.length → A5.getD i .dead = A4.getD i .dead:=fun i hi=>by rw [hA5,Abs.getD_append_left hi]
      have hb6 : A5.getD jb .dead = .gr none 6 rowsb:=(f5 jb (hlb jb (by simp))).trans hgb
      have hB6 : OwnG A5 s rowsb Sb:=hRb.frame fun i hi=>f5 i (hlb i (by simp [hi]))
      clear f5 hgb hRb hA5
      simp only [zW,zX,zD,builtinA,isLeaf,const1,ustrA,simprocAttr,ti3,ti4,ti9,ca22,ca23,ca24,ca25,ca26,ca27,ca28,cf,Tryz.results5]
      refine callO_intro (borrow0 (.cons hK5.view (.cons (.leaf _ rfl) .nil)) rfl heqx) ?_
      rintro r A' ⟨rfl,rfl⟩
      simp only [zW,zX,zD,builtinA,isLeaf,const1,ustrA,simprocAttr,ti3,ti4,ti9,ca22,ca23,ca24,ca25,ca26,ca27,ca28,cf,Tryz.results5,hnb]
      refine callK_intro (by simp only [zW,zX,zD,builtinA,isLeaf,const1,ustrA,simprocAttr,Option.map_some]; rfl) (htob _) ?_ rfl; rintro v A' ⟨rfl,rfl⟩
      simp only [zW,zX,zD,builtinA,isLeaf,const1,ustrA,simprocAttr,ti3,ti4,ti9,ca22,ca23,ca24,ca25,ca26,ca27,ca28,cf,Tryz.results5]
      refine callO_intro (borrow0 (.cons (OwnG.viewG hb6 hB6) (.cons (.leaf _ rfl) .nil)) rfl heqb) ?_
      rintro r A' ⟨rfl,rfl⟩
      simp only [zW,zX,zD,builtinA,isLeaf,const1,ustrA,simprocAttr,ti3,ti4,ti9,ca22,ca23,ca24,ca25,ca26,ca27,ca28,cf,Tryz.results5]
      refine callO_intro (laws_markSigItemS s hbl hbo _ jb rowsb Sb 1 hb6 hB6 hNb (by omega) (by omega)) ?_
      rintro r A8 ⟨rfl,l8,f8⟩
      have hK8 : OwnI A8 xs v S5:=hK5.frame fun i hi=>f8 i (fun h=>by have:=hlb _ h; have:=hR5 i hi; omega)
      clear f8 hb6 hB6 hK5
      simp only [zW,zX,zD,builtinA,isLeaf,const1,ustrA,simprocAttr,ti3,ti4,ti9,ca22,ca23,ca24,ca25,ca26,ca27,ca28,cf,Tryz.results5,hge1]
      refine callO_intro (borrow0 (.cons hK8.view (.cons (.leaf _ rfl) .nil)) rfl heqx) ?_
      rintro r A' ⟨rfl,rfl⟩
      simp only [zW,zX,zD,builtinA,isLeaf,const1,ustrA,simprocAttr,ti3,ti4,ti9,ca22,ca23,ca24,ca25,ca26,ca27,ca28,cf,Tryz.results5,hnb]
      refine callO_intro (laws_markI xs (by omega) hxo _ v S5 1 hK8 hN5 (by omega) (by omega)) ?_
      rintro r A9 ⟨rfl,l9,hK9⟩
      simp only [zW,zX,zD,builtinA,isLeaf,const1,ustrA,simprocAttr,ti3,ti4,ti9,ca22,ca23,ca24,ca25,ca26,ca27,ca28,cf,Tryz.results5]
      refine callO_intro (borrow0 (.cons hK9.view (.cons (.leaf _ rfl) .nil)) rfl (fun A=>laws_heldSigItemS xs (by omega) hxo 1 (by omega) (by omega) A)) ?_
      rintro r A' ⟨rfl,rfl⟩
      simp only [zW,zX,zD,builtinA,isLeaf,const1,ustrA,simprocAttr,ti3,ti4,ti9,ca22,ca23,ca24,ca25,ca26,ca27,ca28,cf,Tryz.results5,hge2,hne]
      refine callK_intro (by simp only [zW,zX,zD,builtinA,isLeaf,const1,ustrA,simprocAttr,Option.map_some]; rfl) (htob _) ?_ rfl; rintro v A' ⟨rfl,rfl⟩
      simp only [zW,zX,zD,builtinA,isLeaf,const1,ustrA,simprocAttr,ti3,ti4,ti9,ca22,ca23,ca24,ca25,ca26,ca27,ca28,cf,Tryz.results5]
      refine callK_intro (by simp only [zW,zX,zD,builtinA,isLeaf,const1,ustrA,simprocAttr,Option.map_some] <;> rfl) (himpl _) ?_ rfl
      rintro r A10 ⟨B10,v2,S10,hA10,hB10,rfl,hv10,hK10,hN10,hR10⟩
      have hM11 : OwnI A10 (markG xs 1) v S5:=hK9.frame fun i hi=>by rw [hA10,Abs.getD_append_left (hK9.low i hi)]
      clear hA10
      simp only [zW,zX,zD,builtinA,isLeaf,const1,ustrA,simprocAttr,ti3,ti4,ti9,ca22,ca23,ca24,ca25,ca26,ca27,ca28,cf,Tryz.results5]
      refine callO_intro (borrow0 (.cons hK10.view (.cons (.leaf _ rfl) .nil)) rfl heqx) ?_
      rintro r A' ⟨rfl,rfl⟩
      simp only [zW,zX,zD,builtinA,isLeaf,const1,ustrA,simprocAttr,ti3,ti4,ti9,ca22,ca23,ca24,ca25,ca26,ca27,ca28,cf,Tryz.results5,hnb]
      refine callO_intro (borrow0 (.cons hM11.view (.cons (.leaf _ rfl) .nil)) rfl (fun A=>laws_heldSigItemS xs (by omega) hxo 1 (by omega) (by omega) A)) ?_
      rintro r A' ⟨rfl,rfl⟩
      simp only [zW,zX,zD,builtinA,isLeaf,const1,ustrA,simprocAttr,ti3,ti4,ti9,ca22,ca23,ca24,ca25,ca26,ca27,ca28,cf,Tryz.results5,hge2,hne]
    · have hv2 : left 1048576 (s.length + szIs s) = -1:=by rw [left,if_neg (by omega)]
      refine acalls_enter (cf:=cf 112 [0,1,2,6,7,8,9,10,11,12,13,14,15,16,17,20,23,28,54,59,75,83,86,103,108,111]) foll Tryz.func5 Tryz.ntmps5 (by simp [cf]) ?_
      simp only [Tryz.f5,EnterK_some,zW,zX,zD,builtinA,isLeaf,const1,ustrA,simprocAttr,ti3,ti4,ti9,ca22,ca23,ca24,ca25,ca26,ca27,ca28,cf,Tryz.results5]
      simp only [zW,zX,zD,builtinA,isLeaf,const1,ustrA,simprocAttr,ti3,ti4,ti9,ca22,ca23,ca24,ca25,ca26,ca27,ca28,cf,Tryz.results5,hd,hd2]
      refine callK_intro (by simp only [zW,zX,zD,builtinA,isLeaf,const1,ustrA,simprocAttr,Option.map_some]; rfl) (hszb _ _ (by omega) (by omega)) ?_ rfl; rintro v A' ⟨rfl,rfl⟩
      rw [hv2]
      simp only [zW,zX,zD,builtinA,isLeaf,const1,ustrA,simprocAttr,ti3,ti4,ti9,ca22,ca23,ca24,ca25,ca26,ca27,ca28,cf,Tryz.results5]
  · have hd : decide ((1048576 : Int) < (nm.length : Int)) = true:=decide_eq_true (by omega)
    refine acalls_enter (cf:=cf 112 [0,1,2,6,7,8,9,10,11,12,13,14,15,16,17,20,23,28,54,59,75,83,86,103,108,111]) foll Tryz.func5 Tryz.ntmps5 (by simp [cf]) ?_
    simp only [Tryz.f5,EnterK_some,zW,zX,zD,builtinA,isLeaf,const1,ustrA,simprocAttr,ti3,ti4,ti9,ca22,ca23,ca24,ca25,ca26,ca27,ca28,cf,Tryz.results5]
    simp only [zW,zX,zD,builtinA,isLeaf,const1,ustrA,simprocAttr,ti3,ti4,ti9,ca22,ca23,ca24,ca25,ca26,ca27,ca28,cf,Tryz.results5,hd]
theorem exactRenameSig_rec : ∀ t ∈ Tryz.f5.params.toList,Tryz.prog.readableRec t = true ∧ t < Tryz.prog.types.size:=by
  rw [Tryz.params5]
  intro t ht
  simp at ht
  rcases ht with rfl | ht
  · exact ⟨by kernel_rfl,of_decide_eq_true (by kernel_rfl)⟩
  subst ht
  exact ⟨by kernel_rfl,of_decide_eq_true (by kernel_rfl)⟩
set_option maxRecDepth 100000 in
theorem exactRenameSig_lifted (os : Os) (started : os.Started) (H : Type) (enc' : TypeId × Value → H) :
    ReturnsInHanded {} Tryz.checked os 5 .any (Rows.fnExactRenameSigSpec.pre6 enc' Tryz.prog Tryz.f5 Rows.fnExactRenameSigRow.domain false) (Rows.fnExactRenameSigSpec.post enc' Tryz.prog Tryz.f5 false true false false):=by
  refine returnsInHanded_of_change (C:=Tryz.checked) ownk started (by kernel_rfl) Tryz.func5
    (ChangeSpec.witness6 (enc:=enc') (C:=Tryz.checked) false ⟨#[],#[.slice none 0 0,.string .empty,.string .empty],[]⟩ 8 (by kernel_rfl) (by kernel_rfl) (by kernel_rfl) (by kernel_rfl)) ?_
  intro W base args ds gs before hval0 hW hcnd _
  have hval : ∀ (j : Nat) t v,Tryz.f5.params[j]? = some t → args[j]? = some v → Value.okWide Tryz.prog W .any base t v:=hval0
  have hW':=hW
  obtain ⟨p,q,hA0,hV,rfl,hfz,hnd⟩:=hW
  have hA : DataW.TrodAll enc' Tryz.prog W 0 (fun _=>true) true Tryz.f5.params.toList args.toList ds p:=hA0
  rw [Tryz.params5] at hA hval
  have hlt:=hA.lt
  obtain ⟨v0,v1,v2,d0,d1,d2,p0,p1,p2,rfl,rfl,rfl,h0,h1,h2⟩:=trodAll_three hA
  obtain ⟨rfl,rfl⟩:=trodVars_none hV
  obtain ⟨x0,hx0,r0⟩:=rv_sigs (hval 0 52 v0 rfl rfl) h0
  obtain ⟨x1,e1,e1',e1'',ws1⟩:=open_string Tryz.underlying9 (hval 1 9 v1 rfl rfl) h1
  subst e1
  obtain ⟨x2,e2,e2',e2'',ws2⟩:=open_string Tryz.underlying9 (hval 2 9 v2 rfl rfl) h2
  subst e2
  refine (law_calls (exactRenameSig_true x0 hx0 x1.data.toList x2.data.toList) (.cons r0 (.cons (rv_string _ x1) (.cons (rv_string _ x2) .nil)))).mono fun e W' ⟨he,hb⟩=>?_
  subst he
  exact ⟨_,rfl,law_post laid exactRenameSig_rec rfl Tryz.underlying4 (by kernel_rfl) ⟨rfl,rfl⟩ rfl hW' hb⟩
theorem exactRenameSig_f9 : (Rows.fnExactRenameSigRow.inPlace == Tryz.pinned.checked.prog.inPlace 5) = true:=by kernel_rfl
theorem exactRenameSig_f10 : (Rows.fnExactRenameSigRow.unfollowed == Tryz.pinned.checked.prog.unfollowed 5) = true:=by kernel_rfl
theorem exactRenameSig_f11 : (Rows.fnExactRenameSigRow.recurses == Tryz.pinned.checked.prog.recurses 5) = true:=by kernel_rfl
theorem exactRenameSig_f12 : (Rows.fnExactRenameSigRow.named == Tryz.pinned.checked.prog.varsNamed 5) = true:=by kernel_rfl
theorem exactRenameSig_f16 : (Rows.fnExactRenameSigRow.loops == (Tryz.f5.params.toList ++ Rows.fnExactRenameSigSpec.plain.varTypes Tryz.pinned.checked.prog).any (Tryz.pinned.checked.prog.loopsFrom ·)) = true:=by kernel_rfl
theorem exactRenameSig_f17 : (Rows.fnExactRenameSigRow.wideKeys == (Tryz.f5.params.toList ++ Rows.fnExactRenameSigSpec.plain.varTypes Tryz.pinned.checked.prog ++ Tryz.f5.resultTypes.toList).any (Tryz.pinned.checked.prog.wideKeysFrom ·)) = true:=by kernel_rfl
theorem exactRenameSig_f22 : (Rows.fnExactRenameSigRow.plainKeys == Tryz.pinned.checked.prog.plainKeys) = true:=by kernel_rfl
theorem exactRenameSig_f26 : (Rows.fnExactRenameSigRow.lifted == Tryz.pinned.checked.prog.liftsFinal) = true:=by kernel_rfl
theorem exactRenameSig_f27 : (Tryz.pinned.checked.prog.make == some Rows.fnExactRenameSigRow.make) = true:=by kernel_rfl
theorem exactRenameSig_facts : joinedFacts Tryz.pinned.checked.prog 5 Tryz.f5 Rows.fnExactRenameSigSpec Rows.fnExactRenameSigRow = true :=
  jf_of (by kernel_rfl) jp1 jp2 (by kernel_rfl) (by kernel_rfl) (by kernel_rfl) jp6 (by kernel_rfl) jp8 exactRenameSig_f9 exactRenameSig_f10 exactRenameSig_f11 exactRenameSig_f12 (by kernel_rfl) (by kernel_rfl) (by kernel_rfl) exactRenameSig_f16 exactRenameSig_f17 (by kernel_rfl) (by kernel_rfl) (by kernel_rfl) (by kernel_rfl) exactRenameSig_f22 (by kernel_rfl) jp24 jp25 exactRenameSig_f26 exactRenameSig_f27 (by kernel_rfl) (by kernel_rfl) (by kernel_rfl) (by kernel_rfl)
theorem exactRenameSig_holds : Rows.FnExactRenameSigSaid :=
  OpenClaim.holds_of_wide 5 Tryz.f5 rfl rfl rfl rfl rfl rfl rfl ⟨rfl,rfl,rfl,rfl,rfl⟩ rfl rfl rfl rfl rfl (by kernel_rfl) Tryz.func5 exactRenameSig_facts
    (of_decide_eq_true (by kernel_rfl)) (by unfold Func.isWrapper; first | (rw [if_pos (by decide +kernel)]; kernel_rfl) | (rw [if_neg (by decide +kernel)]; exact ⟨rfl,rfl⟩))
    (fun os started H enc' _=>exactRenameSig_lifted os started H enc')
end Go.Proofs.YtijlnkfiadajhaaGreat
