/- Whatever the signature that is drawn: NormalSig answers as the model says, and the normal form of a signature mentions the same modules as the signature and has as many items. No condition beside the row's own. -/
import Derived.Test.YtnjdbgiincliaaaGreatN17
set_option linter.unusedVariables false
set_option linter.unusedSimpArgs false
namespace Go.Proofs.YtnjdbgiincliaaaGreat
open Go.Abs Go.RowKit Go.ChangeShapes Go.WideShapes Go.ChangeAt Go.ChangeMaps
def mM (m : List (BNm × VT)) : List (List UInt8):=m.flatMap fun x=>mdV x.2
theorem look_modN {m : List (BNm × VT)} (hm : ∀ x ∈ m,x.1.1 = []) {q n : List UInt8} (hq : q ≠ []) : lookB (q,n) m = none:=by
  induction m with
  | nil=>rfl
  | cons x m ih =>
    have hx:=hm x (.head _)
    rw [lookB,if_neg (fun e=>hq (by rw [show q = (q,n).1 from rfl,e]; exact hx))]
    exact ih fun y hy=>hm y (.tail _ hy)
theorem look_mM {m : List (BNm × VT)} {p : BNm} {v : VT} (h : lookB p m = some v) {q : List UInt8} (hq : q ∈ mdV v) : q ∈ mM m:=by
  induction m with
  | nil=>cases h
  | cons x m ih =>
    rw [lookB] at h
    split at h
    · cases h; exact List.mem_flatMap.2 ⟨x,.head _,hq⟩
    · obtain ⟨y,h1,h2⟩:=List.mem_flatMap.1 (ih h)
      exact List.mem_flatMap.2 ⟨y,.tail _ h1,h2⟩
theorem sub_from {m : List (BNm × VT)} {q : List UInt8} : ∀ v,q ∈ mdV (subV m v) → q ∈ mdV v ∨ q ∈ mM m
  | .num,h=>by simp [subV,mdV] at h
  | .nm a b,h=>by
    rw [subV] at h
    cases hl : lookB (a,b) m with
    | none=>rw [hl] at h; exact .inl h
    | some u=>rw [hl] at h; exact .inr (look_mM hl h)
  | .fn a b,h=>by
    rw [subV,mdV,List.mem_append] at h
    rw [mdV,List.mem_append]
    rcases h with h | h
    · exact (sub_from a h).imp .inl id
    · exact (sub_from b h).imp .inr id
theorem sub_to {m : List (BNm × VT)} (hm : ∀ x ∈ m,x.1.1 = []) {q : List UInt8} (hq : q ≠ []) : ∀ v,q ∈ mdV v → q ∈ mdV (subV m v)
  | .num,h=>by simp [mdV] at h
  | .nm a b,h=>by
    simp only [mdV,List.mem_singleton] at h
    subst h
    rw [subV,look_modN hm hq]; simp [mdV]
  | .fn a b,h=>by
    rw [mdV,List.mem_append] at h
    rw [subV,mdV,List.mem_append]
    rcases h with h | h
    · exact .inl (sub_to hm hq a h)
    · exact .inr (sub_to hm hq b h)
theorem norm_mods {q : List UInt8} (hq : q ≠ []) : ∀ (ys zs : List VI) (m : List (BNm × VT)),(∀ x ∈ m,x.1.1 = []) → normL m ys = some zs → ((q ∈ mdIs zs ∨ q ∈ mM m) ↔ (q ∈ mdIs ys ∨ q ∈ mM m))
  | [],zs,m,_,h=>by cases h; exact Iff.rfl
  | y :: ys,zs,m,hm,h=>by
    rw [normL] at h
    split at h
    · cases hn : normL (nxtM m y) ys with
      | none=>rw [hn] at h; cases h
      | some zs' =>
        rw [hn] at h
        cases h
        have hm' : ∀ x ∈ nxtM m y,x.1.1 = []:=fun x hx=>by
          cases y with
          | ab n =>
            rcases List.mem_append.1 hx with hx | hx
            · exact hm x hx
            · rw [List.mem_singleton.1 hx]
          | al n v =>
            rcases List.mem_append.1 hx with hx | hx
            · exact hm x hx
            · rw [List.mem_singleton.1 hx]
          | va n v=>exact hm x hx
        have ih:=norm_mods hq ys zs' (nxtM m y) hm' hn
        have e1 : q ∈ mdIs (subI m y :: zs') ↔ q ∈ mdI (subI m y) ∨ q ∈ mdIs zs':=by simp [mdIs]
        have e2 : q ∈ mdIs (y :: ys) ↔ q ∈ mdI y ∨ q ∈ mdIs ys:=by simp [mdIs]
        rw [e1,e2]
        cases y with
        | ab n =>
          have e3 : q ∈ mM (nxtM m (.ab n)) ↔ q ∈ mM m:=by simp [mM,nxtM,mdV,hq]
          rw [e3] at ih
          simpa [mdI,subI] using ih
        | va n v =>
          have h1:=@sub_from m q v
          have h2:=@sub_to m hm q hq v
          simp only [nxtM] at ih
          simp only [mdI,subI]
          constructor
          · rintro ((h | h) | h)
            · rcases h1 h with h | h
              · exact .inl (.inl h)
              · exact .inr h
            · rcases ih.1 (.inl h) with h | h
              · exact .inl (.inr h)
              · exact .inr h
            · exact .inr h
          · rintro ((h | h) | h)
            · exact .inl (.inl (h2 h))
            · rcases ih.2 (.inl h) with h | h
              · exact .inl (.inr h)
              · exact .inr h
            · exact .inr h
        | al n v =>
          have h1:=@sub_from m q v
          have h2:=@sub_to m hm q hq v
          have e3 : q ∈ mM (nxtM m (.al n v)) ↔ q ∈ mM m ∨ q ∈ mdV (subV m v):=by simp [mM,nxtM]
          rw [e3] at ih
          simp only [mdI,subI]
          constructor
          · rintro ((h | h) | h)
            · rcases h1 h with h | h
              · exact .inl (.inl h)
              · exact .inr h
            · rcases ih.1 (.inl h) with h | h | h
              · exact .inl (.inr h)
              · exact .inr h
              · rcases h1 h with h | h
                · exact .inl (.inl h)
                · exact .inr h
            · exact .inr h
          · rintro ((h | h) | h)
            · exact .inl (.inl (h2 h))
            · rcases ih.2 (.inl h) with h | h | h
              · exact .inl (.inr h)
              · exact .inr h
              · exact .inl (.inl h)
            · exact .inr h
    · cases h
theorem srt_same {a b : List (List UInt8)} (h : ∀ q,q ≠ [] → (q ∈ a ↔ q ∈ b)) : srt (insMs [] a) = srt (insMs [] b):=by
  refine mergeSort_of_perm ((List.perm_ext_iff_of_nodup (insMs_nodup a (by simp)) (insMs_nodup b (by simp))).2 fun q=>?_)
  rw [insMs_mem,insMs_mem]
  constructor
  · rintro (h' | ⟨h1,h2⟩)
    · exact .inl h'
    · exact .inr ⟨(h q h2).1 h1,h2⟩
  · rintro (h' | ⟨h1,h2⟩)
    · exact .inl h'
    · exact .inr ⟨(h q h2).2 h1,h2⟩
theorem md_norm {s : List SigI} {zs : List VI} {l : Nms} (h : RdN s (some zs)) (hl : MdIs s l) : l = srt (insMs [] (mdIs zs)):=by
  obtain ⟨ys,h8,hr,ho,hn⟩:=h
  refine MdIs.one hl (.inl ⟨ys,hr,h8,ho,srt_same fun q hq=>?_⟩)
  have:=norm_mods hq ys zs [] (by simp) hn
  simpa [mM] using this
theorem own_len {A : List Box} {xs : List SigI} {v : AV} {S : List Nat} (h : OwnI A xs v S) : lenA A v = some xs.length ∧ isStr v = false:=by
  rcases h with ⟨rfl,rfl,_⟩ | ⟨i,rows,S',rfl,_,hb,hG⟩
  · exact ⟨rfl,rfl⟩
  · refine ⟨?_,rfl⟩
    rw [lenA,hb,← hG.length]
set_option maxRecDepth 100000 in
set_option maxHeartbeats 8000000 in
theorem normMod_true (bs : List UInt8) : ACalls Tryz.prog 8 [.aslice (byteRows bs)] [] (fun v _=>v = .bool true):=by
  by_cases hb : 1048576 < bs.length
  · have e1 : decide ((1048576 : Int) < bs.length) = true:=decide_eq_true (by omega)
    refine acalls_enter (cf:=cf 56 [0,2,3,4,5,6,7,10,35]) foll Tryz.func8 Tryz.ntmps8 (by simp [cf]) ?_
    simp only [Tryz.f8,EnterK_some,zW,zX,zD,builtinA,isLeaf,const1,ustrA,simprocAttr,ti3,ti4,ti5,ti50,ti57,ti69,ca25,ca34,ca37,ca41,ca42,ca43,cf,Tryz.results8]
    simp only [zW,zX,zD,builtinA,isLeaf,const1,ustrA,simprocAttr,ti3,ti4,ti5,ti50,ti57,ti69,ca25,ca34,ca37,ca41,ca42,ca43,cf,Tryz.results8,byteRows_length,e1]
  have e1 : decide ((1048576 : Int) < bs.length) = false:=decide_eq_false (by omega)
  refine acalls_enter (cf:=cf 56 [0,2,3,4,5,6,7,10,35]) foll Tryz.func8 Tryz.ntmps8 (by simp [cf]) ?_
  simp only [Tryz.f8,EnterK_some,zW,zX,zD,builtinA,isLeaf,const1,ustrA,simprocAttr,ti3,ti4,ti5,ti50,ti57,ti69,ca25,ca34,ca37,ca41,ca42,ca43,cf,Tryz.results8]
  simp only [zW,zX,zD,builtinA,isLeaf,const1,ustrA,simprocAttr,ti3,ti4,ti5,ti50,ti57,ti69,ca25,ca34,ca37,ca41,ca42,ca43,cf,Tryz.results8,byteRows_length,e1]
  refine callK_intro (by simp only [zW,zX,zD,builtinA,isLeaf,const1,ustrA,simprocAttr]; rfl) (spec_DrawNormalSig bs _) ?_ rfl
  rintro v A' ⟨s,rfl,hs,hsm,rfl⟩
  obtain ⟨hso,hsz⟩:=smx_all hs hsm
  obtain ⟨o,ho⟩:=rdN_ex s
  obtain ⟨hxl,hxm⟩:=nr_small (fun x hx=>(hsm x hx).1) ho
  obtain ⟨hxo,hxz⟩:=smx_all (s:=nrX o) (by omega) hxm
  have hspec : ∀ A,ACalls Tryz.prog 43 [.slice (sEs s)] A (fun r A'=>r = .tuple [.slice (sEs (nrX o)),.bool o.isSome] ∧ A' = A):=fun A=>(spec_NormalSig s (by omega) hso A).mono fun r A' h=>by
    obtain ⟨o',h1,h2,h3⟩:=h
    rw [rdN_oo h1 ho] at h2
    exact ⟨by rw [h2]; cases o <;> rfl,h3⟩
  have himpl : ∀ A,ACalls Tryz.prog 42 [.slice (sEs s)] A (SgNew A (nrX o) o.isSome):=sg_call fun A=>(impl_NormalSig s (by omega) hso A).mono fun r A' h=>by
    obtain ⟨o',h1,h2⟩:=h
    rw [rdN_oo h1 ho] at h2
    exact h2
  have hsame : ∀ A,ACalls Tryz.prog 34 [.slice (sEs (nrX o)),.slice (sEs (nrX o))] A (fun r A'=>r = .bool true ∧ A' = A):=fun A=>(impl_SigSame (nrX o) (nrX o) hxz hxz A).mono fun r A' h=>by rw [sisB_refl] at h; exact h
  have hne : ∀ x : Bool,decide (¬ x = x) = false:=fun x=>by simp
  have hlen:=sEs_length s
  simp only [zW,zX,zD,builtinA,isLeaf,const1,ustrA,simprocAttr,ti3,ti4,ti5,ti50,ti57,ti69,ca25,ca34,ca37,ca41,ca42,ca43,cf,Tryz.results8]
  refine callO_intro (himpl _) ?_
  rintro r A1 ⟨B1,v1,S1,hA1,hB1,rfl,hv1,hK1,hN1,hR1⟩
  clear hA1 hB1 hR1
  simp only [zW,zX,zD,builtinA,isLeaf,const1,ustrA,simprocAttr,ti3,ti4,ti5,ti50,ti57,ti69,ca25,ca34,ca37,ca41,ca42,ca43,cf,Tryz.results8]
  refine callO_intro (hspec _) ?_
  rintro r A2 ⟨rfl,rfl⟩
  simp only [zW,zX,zD,builtinA,isLeaf,const1,ustrA,simprocAttr,ti3,ti4,ti5,ti50,ti57,ti69,ca25,ca34,ca37,ca41,ca42,ca43,cf,Tryz.results8,hne]
  refine callO_intro (borrow0 (.cons hK1.view (.cons (.leaf _ rfl) .nil)) rfl hsame) ?_
  rintro r A' ⟨rfl,rfl⟩
  cases o with
  | none =>
    simp only [zW,zX,zD,builtinA,isLeaf,const1,ustrA,simprocAttr,ti3,ti4,ti5,ti50,ti57,ti69,ca25,ca34,ca37,ca41,ca42,ca43,cf,Tryz.results8,hne,Option.isSome_none]
    refine callO_intro (borrow0 (.cons hK1.view (.cons (.leaf _ rfl) .nil)) rfl hsame) ?_
    rintro r A' ⟨rfl,rfl⟩
    simp only [zW,zX,zD,builtinA,isLeaf,const1,ustrA,simprocAttr,ti3,ti4,ti5,ti50,ti57,ti69,ca25,ca34,ca37,ca41,ca42,ca43,cf,Tryz.results8]
  | some zs =>
    have hra:=rdN_again ho
    have hxs : nrX (some zs) = zs.map siOf:=rfl
    have hzl:=rdN_length ho
    obtain ⟨l,hl⟩:=md_ex3 s
    obtain ⟨l2,hl2⟩:=md_ex3 (nrX (some zs))
    have hll : l2 = l:=(md_norm hra hl2).trans (md_norm ho hl).symm
    subst hll
    have hsml:=md_small3 hl
    have hxlen : (nrX (some zs)).length = s.length:=by rw [hxs]; simp [hzl]
    have him1 : ∀ A,ACalls Tryz.prog 25 [.slice (sEs (nrX (some zs)))] A (NsOut A l2):=fun A=>ns_out ((impl_SigModules _ (by omega) hxo A).mono fun r A' ⟨l',h1,h2⟩=>by rw [MdIs.one hl2 h1]; exact h2)
    have him2 : ∀ A,ACalls Tryz.prog 25 [.slice (sEs s)] A (NsOut A l2):=fun A=>ns_out ((impl_SigModules s (by omega) hso A).mono fun r A' ⟨l',h1,h2⟩=>by rw [MdIs.one hl h1]; exact h2)
    have htx:=laws_mkTexts l2 (by omega)
    generalize nrX (some zs) = xs at *
    simp only [zW,zX,zD,builtinA,isLeaf,const1,ustrA,simprocAttr,ti3,ti4,ti5,ti50,ti57,ti69,ca25,ca34,ca37,ca41,ca42,ca43,cf,Tryz.results8,hne,Option.isSome_some]
    refine callO_intro (NsOut.view him1 (.cons hK1.view .nil)) ?_
    rintro w1 A3 hw1
    obtain ⟨B3,S3,hA3,hw3,hR3⟩:=hw1.own
    clear hw1
    have hK3 : OwnI A3 xs v1 S1:=hK1.frame fun i hi=>by rw [hA3,Abs.getD_append_left (hK1.low i hi)]
    clear hA3
    simp only [zW,zX,zD,builtinA,isLeaf,const1,ustrA,simprocAttr,ti3,ti4,ti5,ti50,ti57,ti69,ca25,ca34,ca37,ca41,ca42,ca43,cf,Tryz.results8]
    refine callO_intro (him2 _) ?_
    rintro w2 A4 hw2
    obtain ⟨B4,S4,hA4,hw4,hR4⟩:=hw2.own
    clear hw2
    have hK4 : OwnI A4 xs v1 S1:=hK3.frame fun i hi=>by rw [hA4,Abs.getD_append_left (hK3.low i hi)]
    have hw34 : OwnN A4 l2 w1 S3:=hw3.frame fun i hi=>by rw [hA4,Abs.getD_append_left (hw3.low i hi)]
    clear hA4
    simp only [zW,zX,zD,builtinA,isLeaf,const1,ustrA,simprocAttr,ti3,ti4,ti5,ti50,ti57,ti69,ca25,ca34,ca37,ca41,ca42,ca43,cf,Tryz.results8]
    refine callO_intro (borrow0 (.cons hw34.view (.cons hw4.view .nil)) rfl htx) ?_
    rintro r A' ⟨rfl,rfl⟩
    obtain ⟨hlA,hlS⟩:=own_len hK4
    have hle : decide ((xs.length : Int) = (s.length : Int)) = true:=decide_eq_true (by omega)
    simp only [zW,zX,zD,builtinA,isLeaf,const1,ustrA,simprocAttr,ti3,ti4,ti5,ti50,ti57,ti69,ca25,ca34,ca37,ca41,ca42,ca43,cf,Tryz.results8,hlA,hlS,hlen,hle]
theorem normMod_rec : ∀ t ∈ Tryz.f8.params.toList,Tryz.prog.readableRec t = true ∧ t < Tryz.prog.types.size:=by
  rw [Tryz.params8]
  intro t ht
  simp at ht
  subst ht
  exact ⟨by kernel_rfl,of_decide_eq_true (by kernel_rfl)⟩
set_option maxRecDepth 100000 in
theorem normMod_lifted (os : Os) (started : os.Started) (H : Type) (enc' : TypeId × Value → H) :
    ReturnsInHanded {} Tryz.checked os 8 .any (Rows.fnNormalModulesSpec.pre6 enc' Tryz.prog Tryz.f8 Rows.fnNormalModulesRow.domain false) (Rows.fnNormalModulesSpec.post enc' Tryz.prog Tryz.f8 false true false false):=by
  refine returnsInHanded_of_change (C:=Tryz.checked) ownk started (by kernel_rfl) Tryz.func8
    (ChangeSpec.witness6 (enc:=enc') (C:=Tryz.checked) false ⟨#[],#[.slice none 0 0],[]⟩ 8 (by kernel_rfl) (by kernel_rfl) (by kernel_rfl) (by kernel_rfl)) ?_
  intro W base args ds gs before hval0 hW hcnd _
  have hval : ∀ (j : Nat) t v,Tryz.f8.params[j]? = some t → args[j]? = some v → Value.okWide Tryz.prog W .any base t v:=hval0
  have hW':=hW
  obtain ⟨p,q,hA0,hV,rfl,hfz,hnd⟩:=hW
  have hA : DataW.TrodAll enc' Tryz.prog W 0 (fun _=>true) true Tryz.f8.params.toList args.toList ds p:=hA0
  rw [Tryz.params8] at hA hval
  have hlt:=hA.lt
  obtain ⟨v0,d0,rfl,rfl,h0⟩:=trodAll_one hA
  obtain ⟨rfl,rfl⟩:=trodVars_none hV
  obtain ⟨x0,r0⟩:=rv_bytes Tryz.underlying57 Tryz.underlying5 (by kernel_rfl) (hval 0 57 v0 rfl rfl) h0 (fun x hx=>hlt x (by simp [hx]))
  refine (law_calls (normMod_true x0) (.cons r0 .nil)).mono fun e W' ⟨he,hb⟩=>?_
  subst he
  exact ⟨_,rfl,law_post laid normMod_rec rfl Tryz.underlying4 (by kernel_rfl) ⟨rfl,rfl⟩ rfl hW' hb⟩
theorem normMod_f9 : (Rows.fnNormalModulesRow.inPlace == Tryz.pinned.checked.prog.inPlace 8) = true:=by kernel_rfl
theorem normMod_f10 : (Rows.fnNormalModulesRow.unfollowed == Tryz.pinned.checked.prog.unfollowed 8) = true:=by kernel_rfl
theorem normMod_f11 : (Rows.fnNormalModulesRow.recurses == Tryz.pinned.checked.prog.recurses 8) = true:=by kernel_rfl
theorem normMod_f12 : (Rows.fnNormalModulesRow.named == Tryz.pinned.checked.prog.varsNamed 8) = true:=by kernel_rfl
theorem normMod_f16 : (Rows.fnNormalModulesRow.loops == (Tryz.f8.params.toList ++ Rows.fnNormalModulesSpec.plain.varTypes Tryz.pinned.checked.prog).any (Tryz.pinned.checked.prog.loopsFrom ·)) = true:=by kernel_rfl
theorem normMod_f17 : (Rows.fnNormalModulesRow.wideKeys == (Tryz.f8.params.toList ++ Rows.fnNormalModulesSpec.plain.varTypes Tryz.pinned.checked.prog ++ Tryz.f8.resultTypes.toList).any (Tryz.pinned.checked.prog.wideKeysFrom ·)) = true:=by kernel_rfl
theorem normMod_f22 : (Rows.fnNormalModulesRow.plainKeys == Tryz.pinned.checked.prog.plainKeys) = true:=by kernel_rfl
theorem normMod_f26 : (Rows.fnNormalModulesRow.lifted == Tryz.pinned.checked.prog.liftsFinal) = true:=by kernel_rfl
theorem normMod_f27 : (Tryz.pinned.checked.prog.make == some Rows.fnNormalModulesRow.make) = true:=by kernel_rfl
theorem normMod_facts : joinedFacts Tryz.pinned.checked.prog 8 Tryz.f8 Rows.fnNormalModulesSpec Rows.fnNormalModulesRow = true :=
  jf_of (by kernel_rfl) jp1 jp2 (by kernel_rfl) (by kernel_rfl) (by kernel_rfl) jp6 (by kernel_rfl) jp8 normMod_f9 normMod_f10 normMod_f11 normMod_f12 (by kernel_rfl) (by kernel_rfl) (by kernel_rfl) normMod_f16 normMod_f17 (by kernel_rfl) (by kernel_rfl) (by kernel_rfl) (by kernel_rfl) normMod_f22 (by kernel_rfl) jp24 jp25 normMod_f26 normMod_f27 (by kernel_rfl) (by kernel_rfl) (by kernel_rfl) (by kernel_rfl)
theorem normMod_holds : Rows.FnNormalModulesSaid :=
  OpenClaim.holds_of_wide 8 Tryz.f8 rfl rfl rfl rfl rfl rfl rfl ⟨rfl,rfl,rfl,rfl,rfl⟩ rfl rfl rfl rfl rfl (by kernel_rfl) Tryz.func8 normMod_facts
    (of_decide_eq_true (by kernel_rfl)) (by unfold Func.isWrapper; first | (rw [if_pos (by decide +kernel)]; kernel_rfl) | (rw [if_neg (by decide +kernel)]; exact ⟨rfl,rfl⟩))
    (fun os started H enc' _=>normMod_lifted os started H enc')
end Go.Proofs.YtnjdbgiincliaaaGreat
