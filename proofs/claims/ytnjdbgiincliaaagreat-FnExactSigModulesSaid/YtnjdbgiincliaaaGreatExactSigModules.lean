/- For every list of items the program's SigModules answers as the model's SigModules does; what it hands back is memory of its own, which neither writing into the argument nor a second call changes, and the argument is not changed. No condition beside the row's own. -/
import Derived.Test.YtnjdbgiincliaaaGreatM14
set_option linter.unusedVariables false
set_option linter.unusedSimpArgs false
namespace Go.Proofs.YtnjdbgiincliaaaGreat
open Go.Abs Go.RowKit Go.ChangeShapes Go.WideShapes Go.ChangeAt Go.ChangeMaps
theorem md_ex (s : List SigI) : ∃ l,MdIs s l:=by
  cases h : sigB s with
  | true=>obtain ⟨ys,h1,h2,h3⟩:=rd_yes h; exact ⟨_,.inl ⟨ys,h2,h1,h3,rfl⟩⟩
  | false=>exact ⟨[],.inr ⟨h,rfl⟩⟩
theorem md_small {s : List SigI} {l : Nms} (h : MdIs s l) : l.length ≤ 1000:=by
  rcases h with ⟨ys,h1,h2,_,rfl⟩ | ⟨_,rfl⟩
  · have h3:=(mdIs_of h1).1
    have h4:=insMs_len (mdIs ys) []
    have:=h1.1
    simp [srt] at h4 ⊢
    omega
  · simp
set_option maxRecDepth 100000 in
set_option maxHeartbeats 4000000 in
theorem exactSigModules_true (s : List SigI) (hso : SigsOk s) : ACalls Tryz.prog 5 [.aslice (sEAs s)] [] (fun v _=>v = .bool true):=by
  obtain ⟨hbl,hbo⟩:=hso
  have hszb:=fun A l h1 h2=>laws_szSigItemS s hbl hbo l A h1 h2
  by_cases hs2 : ((s.length + szIs s : Nat) : Int) ≤ 1048576
  · have hv2 : left 1048576 (s.length + szIs s) = 1048576 - (s.length + szIs s : Nat):=by rw [left,if_pos (by omega)]
    have hn2 : decide ((1048576 : Int) - (s.length + szIs s : Nat) < 0) = false:=decide_eq_false (by omega)
    have hbz : ∀ b ∈ s,szI b ≤ 1048576:=fun b hb=>by have:=szIs_mem hb; omega
    have hbo2 : ∀ x ∈ s,x.Ok ∧ sz x.typ ≤ 1048576:=fun x hx=>⟨hbo x hx,by have:=hbz x hx; rw [szI] at this; omega⟩
    obtain ⟨l,hl⟩:=md_ex s
    have hll:=md_small hl
    have hspec : ∀ A,ACalls Tryz.prog 23 [.slice (sEs s)] A (NsOut A l):=fun A=>ns_out ((spec_SigModules s (by omega) hbo2 A).mono fun r A' ⟨l',h1,h2⟩=>by rw [MdIs.one hl h1]; exact h2)
    have himpl : ∀ A,ACalls Tryz.prog 25 [.slice (sEs s)] A (NsOut A l):=fun A=>ns_out ((impl_SigModules s (by omega) hbo2 A).mono fun r A' ⟨l',h1,h2⟩=>by rw [MdIs.one hl h1]; exact h2)
    have himb : ∀ (A : List Box) (args : List AV),Views A args [.slice (sEs s)] → ACalls Tryz.prog 25 args A (NsOut A l):=fun A args h=>NsOut.view himpl h
    clear hl
    have htob:=laws_toSigItemS s (by omega) (by omega)
    have heqb:=laws_eqSigItemS s hbl hbo
    have heql:=laws_eqStringS l (by omega)
    have htbn:=toSigIS_own s (by omega) hbz
    have htb:=totG_sz s
    have hge1 : decide ((1 : Int) + (totG s : Int) < 0) = false:=decide_eq_false (by omega)
    have hge2 : decide ((1 : Int) + (l.length : Int) < 0) = false:=decide_eq_false (by omega)
    have hne : ∀ x : Int,decide (¬ x = x) = false:=fun x=>by simp
    refine acalls_enter (cf:=cf 69 [0,2,3,4,5,6,7,8,9,10,15,26,31,42,50,53,60,65,68]) foll Tryz.func5 Tryz.ntmps5 (by simp [cf]) ?_
    simp only [Tryz.f5,EnterK_some,zW,zX,zD,builtinA,isLeaf,const1,ustrA,simprocAttr,ti3,ca22,ca23,ca24,ca25,ca26,ca27,ca28,ca29,ca30,cf,Tryz.results5]
    refine callK_intro (by simp only [zW,zX,zD,builtinA,isLeaf,const1,ustrA,simprocAttr,Option.map_some]; rfl) (hszb _ _ (by omega) (by omega)) ?_ rfl; rintro v A' ⟨rfl,rfl⟩
    rw [hv2]
    simp only [zW,zX,zD,builtinA,isLeaf,const1,ustrA,simprocAttr,ti3,ca22,ca23,ca24,ca25,ca26,ca27,ca28,ca29,ca30,cf,Tryz.results5,hn2]
    refine callK_intro (by simp only [zW,zX,zD,builtinA,isLeaf,const1,ustrA,simprocAttr,Option.map_some]; rfl) (htob _) ?_ rfl; rintro v A' ⟨rfl,rfl⟩
    simp only [zW,zX,zD,builtinA,isLeaf,const1,ustrA,simprocAttr,ti3,ca22,ca23,ca24,ca25,ca26,ca27,ca28,ca29,ca30,cf,Tryz.results5]
    refine callK_intro (by simp only [zW,zX,zD,builtinA,isLeaf,const1,ustrA,simprocAttr,Option.map_some] <;> rfl) (hspec _) ?_ rfl
    rintro w A3 hw
    obtain ⟨B3,Sw,hA3,hw3,hR3⟩:=hw.own
    clear hw
    simp only [zW,zX,zD,builtinA,isLeaf,const1,ustrA,simprocAttr,ti3,ca22,ca23,ca24,ca25,ca26,ca27,ca28,ca29,ca30,cf,Tryz.results5]
    refine callK_intro (by simp only [zW,zX,zD,builtinA,isLeaf,const1,ustrA,simprocAttr,Option.map_some] <;> rfl) (htbn _) ?_ rfl
    rintro r A4 ⟨jb,rfl,hle4,hf4,rowsb,Sb,hgb,hRb,hNb,hgeb⟩
    have hlb : ∀ i ∈ jb :: Sb,i < A4.length:=fun i hi=>by
      rcases List.mem_cons.1 hi with rfl | hi
      · exact live_lt hgb (by simp)
      · exact hRb.low i hi
    have hw4 : OwnN A4 l w Sw:=hw3.frame fun i hi=>hf4 i (hR3 i hi).2
    have hl34 : ∀ i ∈ Sw,i < A3.length:=fun i hi=>(hR3 i hi).2
    clear hf4 hA3
    simp only [zW,zX,zD,builtinA,isLeaf,const1,ustrA,simprocAttr,ti3,ca22,ca23,ca24,ca25,ca26,ca27,ca28,ca29,ca30,cf,Tryz.results5]
    refine callO_intro (himb _ _ (.cons (OwnG.viewG hgb hRb) .nil)) ?_
    rintro v A5 hv5
    obtain ⟨B5,S5,hA5,hK5,hR5⟩:=hv5.own
    clear hv5
    have f5 : ∀ i,i < A4.length → A5.getD i .dead = A4.getD i .dead:=fun i hi=>by rw [hA5,Abs.getD_append_left hi]
    have hb6 : A5.getD jb .dead = .gr none 6 rowsb:=(f5 jb (hlb jb (by simp))).trans hgb
    have hB6 : OwnG A5 s rowsb Sb:=hRb.frame fun i hi=>f5 i (hlb i (by simp [hi]))
    have hw5 : OwnN A5 l w Sw:=hw4.frame fun i hi=>f5 i (hw4.low i hi)
    clear f5 hgb hRb hA5
    simp only [zW,zX,zD,builtinA,isLeaf,const1,ustrA,simprocAttr,ti3,ca22,ca23,ca24,ca25,ca26,ca27,ca28,ca29,ca30,cf,Tryz.results5]
    refine callO_intro (borrow0 (.cons hK5.view (.cons hw5.view .nil)) rfl heql) ?_
    rintro r A' ⟨rfl,rfl⟩
    simp only [zW,zX,zD,builtinA,isLeaf,const1,ustrA,simprocAttr,ti3,ca22,ca23,ca24,ca25,ca26,ca27,ca28,ca29,ca30,cf,Tryz.results5]
    refine callK_intro (by simp only [zW,zX,zD,builtinA,isLeaf,const1,ustrA,simprocAttr,Option.map_some]; rfl) (htob _) ?_ rfl; rintro v A' ⟨rfl,rfl⟩
    simp only [zW,zX,zD,builtinA,isLeaf,const1,ustrA,simprocAttr,ti3,ca22,ca23,ca24,ca25,ca26,ca27,ca28,ca29,ca30,cf,Tryz.results5]
    refine callO_intro (borrow0 (.cons (OwnG.viewG hb6 hB6) (.cons (.leaf _ rfl) .nil)) rfl heqb) ?_
    rintro r A' ⟨rfl,rfl⟩
    simp only [zW,zX,zD,builtinA,isLeaf,const1,ustrA,simprocAttr,ti3,ca22,ca23,ca24,ca25,ca26,ca27,ca28,ca29,ca30,cf,Tryz.results5]
    refine callO_intro (laws_markSigItemS s hbl hbo _ jb rowsb Sb 1 hb6 hB6 hNb (by omega) (by omega)) ?_
    rintro r A8 ⟨rfl,l8,f8⟩
    have hK8 : OwnN A8 l v S5:=hK5.frame fun i hi=>f8 i (fun h=>by have:=hlb _ h; have:=hR5 i hi; omega)
    have hw8 : OwnN A8 l w Sw:=hw5.frame fun i hi=>f8 i (fun h=>by have:=hgeb _ h; have:=hl34 i hi; omega)
    clear f8 hb6 hB6 hK5
    simp only [zW,zX,zD,builtinA,isLeaf,const1,ustrA,simprocAttr,ti3,ca22,ca23,ca24,ca25,ca26,ca27,ca28,ca29,ca30,cf,Tryz.results5,hge1]
    refine callO_intro (borrow0 (.cons hK8.view (.cons hw8.view .nil)) rfl heql) ?_
    rintro r A' ⟨rfl,rfl⟩
    simp only [zW,zX,zD,builtinA,isLeaf,const1,ustrA,simprocAttr,ti3,ca22,ca23,ca24,ca25,ca26,ca27,ca28,ca29,ca30,cf,Tryz.results5]
    refine callO_intro (laws_markN l (by omega) _ v S5 1 hK8 (by omega) (by omega)) ?_
    rintro r A9 ⟨rfl,hK9,l9,f9⟩
    have hw9 : OwnN A9 l w Sw:=hw8.frame fun i hi=>f9 i (fun h=>by have:=hR5 i h; have:=hw4.low i hi; omega)
    clear f9
    simp only [zW,zX,zD,builtinA,isLeaf,const1,ustrA,simprocAttr,ti3,ca22,ca23,ca24,ca25,ca26,ca27,ca28,ca29,ca30,cf,Tryz.results5]
    refine callO_intro (borrow0 (.cons hK9.view (.cons (.leaf _ rfl) .nil)) rfl (fun A=>laws_heldN l.length (by omega) 1 (by omega) (by omega) A)) ?_
    rintro r A' ⟨rfl,rfl⟩
    simp only [zW,zX,zD,builtinA,isLeaf,const1,ustrA,simprocAttr,ti3,ca22,ca23,ca24,ca25,ca26,ca27,ca28,ca29,ca30,cf,Tryz.results5,hge2,hne]
    refine callK_intro (by simp only [zW,zX,zD,builtinA,isLeaf,const1,ustrA,simprocAttr,Option.map_some]; rfl) (htob _) ?_ rfl; rintro v A' ⟨rfl,rfl⟩
    simp only [zW,zX,zD,builtinA,isLeaf,const1,ustrA,simprocAttr,ti3,ca22,ca23,ca24,ca25,ca26,ca27,ca28,ca29,ca30,cf,Tryz.results5]
    refine callK_intro (by simp only [zW,zX,zD,builtinA,isLeaf,const1,ustrA,simprocAttr,Option.map_some] <;> rfl) (himpl _) ?_ rfl
    rintro v2 A10 hv10
    obtain ⟨B10,S10,hA10,hK10,hR10⟩:=hv10.own
    clear hv10
    have hw10 : OwnN A10 l w Sw:=hw9.frame fun i hi=>by rw [hA10,Abs.getD_append_left (hw9.low i hi)]
    have hM10 : OwnN A10 (mkN l.length 1) v S5:=hK9.frame fun i hi=>by rw [hA10,Abs.getD_append_left (hK9.low i hi)]
    clear hA10
    simp only [zW,zX,zD,builtinA,isLeaf,const1,ustrA,simprocAttr,ti3,ca22,ca23,ca24,ca25,ca26,ca27,ca28,ca29,ca30,cf,Tryz.results5]
    refine callO_intro (borrow0 (.cons hK10.view (.cons hw10.view .nil)) rfl heql) ?_
    rintro r A' ⟨rfl,rfl⟩
    simp only [zW,zX,zD,builtinA,isLeaf,const1,ustrA,simprocAttr,ti3,ca22,ca23,ca24,ca25,ca26,ca27,ca28,ca29,ca30,cf,Tryz.results5]
    refine callO_intro (borrow0 (.cons hM10.view (.cons (.leaf _ rfl) .nil)) rfl (fun A=>laws_heldN l.length (by omega) 1 (by omega) (by omega) A)) ?_
    rintro r A' ⟨rfl,rfl⟩
    simp only [zW,zX,zD,builtinA,isLeaf,const1,ustrA,simprocAttr,ti3,ca22,ca23,ca24,ca25,ca26,ca27,ca28,ca29,ca30,cf,Tryz.results5,hge2,hne]
  · have hv2 : left 1048576 (s.length + szIs s) = -1:=by rw [left,if_neg (by omega)]
    refine acalls_enter (cf:=cf 69 [0,2,3,4,5,6,7,8,9,10,15,26,31,42,50,53,60,65,68]) foll Tryz.func5 Tryz.ntmps5 (by simp [cf]) ?_
    simp only [Tryz.f5,EnterK_some,zW,zX,zD,builtinA,isLeaf,const1,ustrA,simprocAttr,ti3,ca22,ca23,ca24,ca25,ca26,ca27,ca28,ca29,ca30,cf,Tryz.results5]
    refine callK_intro (by simp only [zW,zX,zD,builtinA,isLeaf,const1,ustrA,simprocAttr,Option.map_some]; rfl) (hszb _ _ (by omega) (by omega)) ?_ rfl; rintro v A' ⟨rfl,rfl⟩
    rw [hv2]
    simp only [zW,zX,zD,builtinA,isLeaf,const1,ustrA,simprocAttr,ti3,ca22,ca23,ca24,ca25,ca26,ca27,ca28,ca29,ca30,cf,Tryz.results5]
theorem exactSigModules_rec : ∀ t ∈ Tryz.f5.params.toList,Tryz.prog.readableRec t = true ∧ t < Tryz.prog.types.size:=by
  rw [Tryz.params5]
  intro t ht
  simp at ht
  subst ht
  exact ⟨by kernel_rfl,of_decide_eq_true (by kernel_rfl)⟩
set_option maxRecDepth 100000 in
theorem exactSigModules_lifted (os : Os) (started : os.Started) (H : Type) (enc' : TypeId × Value → H) :
    ReturnsInHanded {} Tryz.checked os 5 .any (Rows.fnExactSigModulesSpec.pre6 enc' Tryz.prog Tryz.f5 Rows.fnExactSigModulesRow.domain false) (Rows.fnExactSigModulesSpec.post enc' Tryz.prog Tryz.f5 false true false false):=by
  refine returnsInHanded_of_change (C:=Tryz.checked) ownk started (by kernel_rfl) Tryz.func5
    (ChangeSpec.witness6 (enc:=enc') (C:=Tryz.checked) false ⟨#[],#[.slice none 0 0],[]⟩ 8 (by kernel_rfl) (by kernel_rfl) (by kernel_rfl) (by kernel_rfl)) ?_
  intro W base args ds gs before hval0 hW hcnd _
  have hval : ∀ (j : Nat) t v,Tryz.f5.params[j]? = some t → args[j]? = some v → Value.okWide Tryz.prog W .any base t v:=hval0
  have hW':=hW
  obtain ⟨p,q,hA0,hV,rfl,hfz,hnd⟩:=hW
  have hA : DataW.TrodAll enc' Tryz.prog W 0 (fun _=>true) true Tryz.f5.params.toList args.toList ds p:=hA0
  rw [Tryz.params5] at hA hval
  have hlt:=hA.lt
  obtain ⟨v0,d0,rfl,rfl,h0⟩:=trodAll_one hA
  obtain ⟨rfl,rfl⟩:=trodVars_none hV
  obtain ⟨x0,hx0,r0⟩:=rv_sigs (hval 0 46 v0 rfl rfl) h0
  refine (law_calls (exactSigModules_true x0 hx0) (.cons r0 .nil)).mono fun e W' ⟨he,hb⟩=>?_
  subst he
  exact ⟨_,rfl,law_post laid exactSigModules_rec rfl Tryz.underlying4 (by kernel_rfl) ⟨rfl,rfl⟩ rfl hW' hb⟩
theorem exactSigModules_f9 : (Rows.fnExactSigModulesRow.inPlace == Tryz.pinned.checked.prog.inPlace 5) = true:=by kernel_rfl
theorem exactSigModules_f10 : (Rows.fnExactSigModulesRow.unfollowed == Tryz.pinned.checked.prog.unfollowed 5) = true:=by kernel_rfl
theorem exactSigModules_f11 : (Rows.fnExactSigModulesRow.recurses == Tryz.pinned.checked.prog.recurses 5) = true:=by kernel_rfl
theorem exactSigModules_f12 : (Rows.fnExactSigModulesRow.named == Tryz.pinned.checked.prog.varsNamed 5) = true:=by kernel_rfl
theorem exactSigModules_f16 : (Rows.fnExactSigModulesRow.loops == (Tryz.f5.params.toList ++ Rows.fnExactSigModulesSpec.plain.varTypes Tryz.pinned.checked.prog).any (Tryz.pinned.checked.prog.loopsFrom ·)) = true:=by kernel_rfl
theorem exactSigModules_f17 : (Rows.fnExactSigModulesRow.wideKeys == (Tryz.f5.params.toList ++ Rows.fnExactSigModulesSpec.plain.varTypes Tryz.pinned.checked.prog ++ Tryz.f5.resultTypes.toList).any (Tryz.pinned.checked.prog.wideKeysFrom ·)) = true:=by kernel_rfl
theorem exactSigModules_f22 : (Rows.fnExactSigModulesRow.plainKeys == Tryz.pinned.checked.prog.plainKeys) = true:=by kernel_rfl
theorem exactSigModules_f26 : (Rows.fnExactSigModulesRow.lifted == Tryz.pinned.checked.prog.liftsFinal) = true:=by kernel_rfl
theorem exactSigModules_f27 : (Tryz.pinned.checked.prog.make == some Rows.fnExactSigModulesRow.make) = true:=by kernel_rfl
theorem exactSigModules_facts : joinedFacts Tryz.pinned.checked.prog 5 Tryz.f5 Rows.fnExactSigModulesSpec Rows.fnExactSigModulesRow = true :=
  jf_of (by kernel_rfl) jp1 jp2 (by kernel_rfl) (by kernel_rfl) (by kernel_rfl) jp6 (by kernel_rfl) jp8 exactSigModules_f9 exactSigModules_f10 exactSigModules_f11 exactSigModules_f12 (by kernel_rfl) (by kernel_rfl) (by kernel_rfl) exactSigModules_f16 exactSigModules_f17 (by kernel_rfl) (by kernel_rfl) (by kernel_rfl) (by kernel_rfl) exactSigModules_f22 (by kernel_rfl) jp24 jp25 exactSigModules_f26 exactSigModules_f27 (by kernel_rfl) (by kernel_rfl) (by kernel_rfl) (by kernel_rfl)
theorem exactSigModules_holds : Rows.FnExactSigModulesSaid :=
  OpenClaim.holds_of_wide 5 Tryz.f5 rfl rfl rfl rfl rfl rfl rfl ⟨rfl,rfl,rfl,rfl,rfl⟩ rfl rfl rfl rfl rfl (by kernel_rfl) Tryz.func5 exactSigModules_facts
    (of_decide_eq_true (by kernel_rfl)) (by unfold Func.isWrapper; first | (rw [if_pos (by decide +kernel)]; kernel_rfl) | (rw [if_neg (by decide +kernel)]; exact ⟨rfl,rfl⟩))
    (fun os started H enc' _=>exactSigModules_lifted os started H enc')
end Go.Proofs.YtnjdbgiincliaaaGreat
