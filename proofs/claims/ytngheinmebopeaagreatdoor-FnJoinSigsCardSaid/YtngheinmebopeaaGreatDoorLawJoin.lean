/- Whatever the two signatures that are drawn: JoinSigs answers as the model says; what it hands back matches both of them and is no longer than both together. No condition beside the row's own. -/
import Derived.Test.YtngheinmebopeaaGreatDoorJ17
set_option linter.unusedVariables false
set_option linter.unusedSimpArgs false
namespace Go.Proofs.YtngheinmebopeaaGreatDoor
open Go.Abs Go.RowKit Go.ChangeShapes Go.WideShapes Go.ChangeAt Go.ChangeMaps
theorem szIs_bdJ : ∀ (l : List SigI) (b : Nat),(∀ x ∈ l,szI x ≤ b) → szIs l ≤ l.length * b
  | [],b,_=>by simp [szIs]
  | x :: l,b,h=>by
    have h1:=h x (by simp)
    have h2:=szIs_bdJ l b fun y hy=>h y (by simp [hy])
    simp only [szIs,List.map_cons,List.sum_cons,List.length_cons] at h2 ⊢
    rw [Nat.succ_mul]; omega
theorem jn_all {s : List SigI} (hm : ∀ x ∈ s,SmX x) : ∀ x ∈ s,x.Ok ∧ sz x.typ ≤ 1048576:=fun x hx=>(hm x hx).ok
theorem jn_small {a b : List SigI} (ha : ∀ x ∈ a,SmX x) (hb : ∀ x ∈ b,SmX x) (h9 : a.length ≤ 9) (h9' : b.length ≤ 9) {o : Option (List SigI)} (h : JnIs a b o) : (o.getD []).length ≤ a.length + b.length ∧ (∀ x ∈ o.getD [],x.Ok ∧ sz x.typ ≤ 1048576) ∧ (o.getD []).length + szIs (o.getD []) ≤ 1048576:=by
  have key : ∀ xs : List SigI,xs.length ≤ a.length + b.length → (∀ x ∈ xs,SmX x) → xs.length ≤ a.length + b.length ∧ (∀ x ∈ xs,x.Ok ∧ sz x.typ ≤ 1048576) ∧ xs.length + szIs xs ≤ 1048576:=fun xs h1 h2=>⟨h1,jn_all h2,by
    have h3:=szIs_bdJ xs 300 fun x hx=>by
      have h3 : x.name.length ≤ 2 ∧ sz x.typ ≤ 200:=h2 x hx
      rw [szI]; omega
    omega⟩
  rcases h with ⟨ys,zs,c,c',p,p',h8,h8',hr,hr',hord,hord',hM,hM',rfl⟩ | ⟨hn,rfl⟩
  · split
    · refine key _ ?_ fun x hx=>?_
      · have:=jnK_len ys zs
        have:=hr.1
        have:=hr'.1
        simp only [Option.getD_some,List.length_map]; omega
      · simp only [Option.getD_some] at hx
        obtain ⟨y,hy,rfl⟩:=List.mem_map.1 hx
        rw [jnK] at hy
        rcases List.mem_append.1 hy with h | h
        · exact ha _ (by rw [rd_map hr]; exact List.mem_map.2 ⟨y,h,rfl⟩)
        · exact hb _ (by rw [rd_map hr']; exact List.mem_map.2 ⟨y,(List.mem_filter.1 h).1,rfl⟩)
    · exact key [] (by simp) (by simp)
  · exact key [] (by simp) (by simp)
theorem jn_match {a b xs : List SigI} (h : JnIs a b (some xs)) : ∃ p p',MtIs xs a 0 p ∧ MtIs xs b 0 p':=by
  rcases h with ⟨ys,zs,c,c',p,p',h8,h8',hr,hr',hord,hord',hM,hM',h⟩ | ⟨_,h⟩
  · split at h
    · rename_i hc
      obtain ⟨rfl,rfl⟩:=hc
      injection h with h
      subst h
      exact ⟨p,p',hM,hM'⟩
    · cases h
  · cases h
set_option maxRecDepth 100000 in
set_option maxHeartbeats 4000000 in
theorem join_true (bs : List UInt8) : ACalls Tryz.prog 4 [.aslice (byteRows bs)] [] (fun v _=>v = .bool true):=by
  by_cases hb : 1048576 < bs.length
  · have e1 : decide ((1048576 : Int) < bs.length) = true:=decide_eq_true (by omega)
    refine acalls_enter (cf:=cf 70 [0,2,3,4,5,6,7,8,11,41]) foll Tryz.func4 Tryz.ntmps4 (by simp [cf]) ?_
    simp only [Tryz.f4,EnterK_some,zW,zX,zD,builtinA,isLeaf,const1,ustrA,simprocAttr,ti3,ti4,ti5,ti22,ti23,ti64,ca7,ca9,ca10,ca11,ca12,cf,Tryz.results4]
    simp only [zW,zX,zD,builtinA,isLeaf,const1,ustrA,simprocAttr,ti3,ti4,ti5,ti22,ti23,ti64,ca7,ca9,ca10,ca11,ca12,cf,Tryz.results4,byteRows_length,e1]
  have e1 : decide ((1048576 : Int) < bs.length) = false:=decide_eq_false (by omega)
  refine acalls_enter (cf:=cf 70 [0,2,3,4,5,6,7,8,11,41]) foll Tryz.func4 Tryz.ntmps4 (by simp [cf]) ?_
  simp only [Tryz.f4,EnterK_some,zW,zX,zD,builtinA,isLeaf,const1,ustrA,simprocAttr,ti3,ti4,ti5,ti22,ti23,ti64,ca7,ca9,ca10,ca11,ca12,cf,Tryz.results4]
  simp only [zW,zX,zD,builtinA,isLeaf,const1,ustrA,simprocAttr,ti3,ti4,ti5,ti22,ti23,ti64,ca7,ca9,ca10,ca11,ca12,cf,Tryz.results4,byteRows_length,e1]
  refine callK_intro (by simp only [zW,zX,zD,builtinA,isLeaf,const1,ustrA,simprocAttr]; rfl) (spec_DrawJoinSigs bs _) ?_ rfl
  rintro v A' ⟨s,t,rfl,hs,hsm,ht,htm,rfl⟩
  have hso:=jn_all hsm
  have hto:=jn_all htm
  obtain ⟨o,ho⟩:=jnIs_ex s t
  obtain ⟨hxl,hxo,hxz⟩:=jn_small hsm htm hs ht ho
  have hspec:=fun A=>spec_JoinSigs s t (by omega) hso (by omega) hto ho A
  have himpl : ∀ A,ACalls Tryz.prog 10 [.slice (sEs s),.slice (sEs t)] A (SgNew A (o.getD []) o.isSome):=sg_call fun A=>(impl_JoinSigs s t (by omega) hso (by omega) hto A).mono fun r A' h=>by
    obtain ⟨o',h1,h2⟩:=h
    rw [jnIs_one h1 ho] at h2
    exact h2
  have hsame : ∀ A,ACalls Tryz.prog 12 [.slice (sEs (o.getD [])),.slice (sEs (o.getD []))] A (fun r A'=>r = .bool true ∧ A' = A):=fun A=>(impl_SigSame _ _ hxz hxz A).mono fun r A' h=>by rw [sisB_refl] at h; exact h
  have hne : ∀ x : Bool,decide (¬ x = x) = false:=fun x=>by simp
  have hls:=sEs_length s
  have hlt:=sEs_length t
  simp only [zW,zX,zD,builtinA,isLeaf,const1,ustrA,simprocAttr,ti3,ti4,ti5,ti22,ti23,ti64,ca7,ca9,ca10,ca11,ca12,cf,Tryz.results4]
  refine callO_intro (himpl _) ?_
  rintro r A1 ⟨B1,v1,S1,hA1,hB1,rfl,hv1,hK1,hN1,hR1⟩
  clear hA1 hB1 hR1
  simp only [zW,zX,zD,builtinA,isLeaf,const1,ustrA,simprocAttr,ti3,ti4,ti5,ti22,ti23,ti64,ca7,ca9,ca10,ca11,ca12,cf,Tryz.results4]
  refine callO_intro (hspec _) ?_
  rintro r A2 ⟨rfl,rfl⟩
  simp only [zW,zX,zD,builtinA,isLeaf,const1,ustrA,simprocAttr,ti3,ti4,ti5,ti22,ti23,ti64,ca7,ca9,ca10,ca11,ca12,cf,Tryz.results4,hne]
  refine callO_intro (borrow0 (.cons hK1.view (.cons (.leaf _ rfl) .nil)) rfl hsame) ?_
  rintro r A' ⟨rfl,rfl⟩
  cases o with
  | none =>
    simp only [zW,zX,zD,builtinA,isLeaf,const1,ustrA,simprocAttr,ti3,ti4,ti5,ti22,ti23,ti64,ca7,ca9,ca10,ca11,ca12,cf,Tryz.results4,hne,Option.isSome_none]
    refine callO_intro (borrow0 (.cons hK1.view (.cons (.leaf _ rfl) .nil)) rfl hsame) ?_
    rintro r A' ⟨rfl,rfl⟩
    simp only [zW,zX,zD,builtinA,isLeaf,const1,ustrA,simprocAttr,ti3,ti4,ti5,ti22,ti23,ti64,ca7,ca9,ca10,ca11,ca12,cf,Tryz.results4]
  | some xs =>
    obtain ⟨p,p',hM,hM'⟩:=jn_match ho
    simp only [Option.getD_some] at hxl hxo hK1
    have hm1:=fun A=>impl_MatchSigF hM (by omega) hxo (by omega) hso A
    have hm2:=fun A=>impl_MatchSigF hM' (by omega) hxo (by omega) hto A
    simp only [zW,zX,zD,builtinA,isLeaf,const1,ustrA,simprocAttr,ti3,ti4,ti5,ti22,ti23,ti64,ca7,ca9,ca10,ca11,ca12,cf,Tryz.results4,hne,Option.isSome_some]
    refine callO_intro (borrow0 (.cons hK1.view (.cons (.leaf _ rfl) .nil)) rfl hm1) ?_
    rintro r A' ⟨rfl,rfl⟩
    simp only [zW,zX,zD,builtinA,isLeaf,const1,ustrA,simprocAttr,ti3,ti4,ti5,ti22,ti23,ti64,ca7,ca9,ca10,ca11,ca12,cf,Tryz.results4]
    refine callO_intro (borrow0 (.cons hK1.view (.cons (.leaf _ rfl) .nil)) rfl hm2) ?_
    rintro r A' ⟨rfl,rfl⟩
    have hw : IntKind.i64.wrap ((s.length : Int) + (t.length : Int)) = ((s.length + t.length : Nat) : Int):=by rw [wrap64 (by omega) (by omega)]; omega
    rcases hK1 with ⟨rfl,hx0,_⟩ | ⟨j,rows,S',rfl,rfl,hg,hG⟩
    · have d : decide ((0 : Int) ≤ ((s.length + t.length : Nat) : Int)) = true:=decide_eq_true (by omega)
      simp only [zW,zX,zD,builtinA,isLeaf,const1,ustrA,simprocAttr,ti3,ti4,ti5,ti22,ti23,ti64,ca7,ca9,ca10,ca11,ca12,cf,Tryz.results4,hls,hlt,hw,d]
    · have hrl:=hG.length
      have d : decide ((xs.length : Int) ≤ ((s.length + t.length : Nat) : Int)) = true:=decide_eq_true (by omega)
      simp only [zW,zX,zD,builtinA,isLeaf,const1,ustrA,simprocAttr,ti3,ti4,ti5,ti22,ti23,ti64,ca7,ca9,ca10,ca11,ca12,cf,Tryz.results4,hg,hrl,hls,hlt,hw,d]
theorem join_rec : ∀ t ∈ Tryz.f4.params.toList,Tryz.prog.readableRec t = true ∧ t < Tryz.prog.types.size:=by
  rw [Tryz.params4]
  intro t ht
  simp at ht
  subst ht
  exact ⟨by kernel_rfl,of_decide_eq_true (by kernel_rfl)⟩
set_option maxRecDepth 100000 in
theorem join_lifted (os : Os) (started : os.Started) (H : Type) (enc' : TypeId × Value → H) :
    ReturnsInHanded {} Tryz.checked os 4 .any (fun w args=>(Rows.fnJoinSigsSpec.pre enc' Tryz.prog Tryz.f4 Rows.fnJoinSigsRow.domain false w args ∧ laidMetH Tryz.prog laidL w) ∧ sizedMet enc' Tryz.prog Tryz.f4 (OpenSpec.ofChange Rows.fnJoinSigsSpec) false w args) (Rows.fnJoinSigsSpec.post enc' Tryz.prog Tryz.f4 false true false false):=by
  refine returnsInHanded_of_change_and (C:=Tryz.checked) (X:=fun w _=>laidMetH Tryz.prog laidL w) (fun _ _ _ hh h=>h.of_heap hh) ownk started (by kernel_rfl) Tryz.func4
    (ChangeSpec.witness_at (enc:=enc') (C:=Tryz.checked) (os:=os) (X:=fun w _=>laidMetH Tryz.prog laidL w) false (laidWorld os) #[.slice none 0 0] 8 rfl (by kernel_rfl) (by kernel_rfl) (by kernel_rfl) (by kernel_rfl) (by kernel_rfl) (laidWorld_met os _)) ?_
  intro W base args ds gs before hval0 hW hcnd _ hL _
  have hval : ∀ (j : Nat) t v,Tryz.f4.params[j]? = some t → args[j]? = some v → Value.okWide Tryz.prog W .any base t v:=hval0
  have hW':=hW
  obtain ⟨p,q,hA0,hV,rfl,hfz,hnd⟩:=hW
  have hA : DataW.TrodAll enc' Tryz.prog W 0 (fun _=>true) true Tryz.f4.params.toList args.toList ds p:=hA0
  rw [Tryz.params4] at hA hval
  have hlt:=hA.lt
  obtain ⟨v0,d0,rfl,rfl,h0⟩:=trodAll_one hA
  obtain ⟨rfl,rfl⟩:=trodVars_none hV
  obtain ⟨x0,r0⟩:=rv_bytes Tryz.underlying22 Tryz.underlying5 (by kernel_rfl) (hval 0 22 v0 rfl rfl) h0 (fun x hx=>hlt x (by simp [hx]))
  refine (law_calls (join_true x0) (.cons r0 .nil) (gv_of_laid hL)).mono fun e W' ⟨he,hb⟩=>?_
  subst he
  exact ⟨_,rfl,law_post laid join_rec rfl Tryz.underlying4 (by kernel_rfl) ⟨rfl,rfl⟩ rfl hW' hb⟩
theorem join_facts : joinedFacts Tryz.pinned.checked.prog 4 Tryz.f4 Rows.fnJoinSigsSpec Rows.fnJoinSigsRow = true:=by kernel_rfl
theorem join_row : Rows.FnJoinSigsSaid :=
  OpenClaim.holds_of_wide 4 Tryz.f4 rfl rfl rfl rfl rfl rfl rfl ⟨rfl,rfl,rfl,rfl,rfl⟩ rfl rfl rfl rfl rfl (by kernel_rfl) Tryz.func4 join_facts
    (of_decide_eq_true (by kernel_rfl)) (by unfold Func.isWrapper; first | (rw [if_pos (by decide +kernel)]; kernel_rfl) | (rw [if_neg (by decide +kernel)]; exact ⟨rfl,rfl⟩))
    (fun os started H enc' _=>join_lifted os started H enc')
theorem join_holds : Rows.FnJoinSigsCardSaid :=
  Claim7.holds_tied_plain_at .later [] [.handle] true (true, "5c643bf6461f8b5dc4014ed9293c99d68007f7ed1a1c852ce313b71903ffa73d") true
    join_row (fun _ h=>by cases h) (by kernel_rfl) (fun _ h=>by cases h) fnJoinSigs_row_tie rfl ⟨rfl,rfl⟩ (by kernel_rfl) rfl
    (fun f fn hf hfn=>by
      obtain rfl : f = 4:=Option.some.inj ((show Tryz.prog.funcNamed Rows.fnJoinSigsRow.func = some 4 by kernel_rfl).symm.trans hf) |>.symm
      obtain rfl : fn = Tryz.f4:=(Option.some.inj (Tryz.func4.symm.trans hfn)).symm
      refine ⟨by kernel_rfl,fun j t ht=>?_⟩
      rw [Tryz.params4] at ht
      rcases j with _ | j
      · obtain rfl : 22 = t:=by simpa using ht
        exact (show Tryz.prog.wantsStandIn 22 = false by kernel_rfl)
      · simp at ht)
    (by kernel_rfl)
end Go.Proofs.YtngheinmebopeaaGreatDoor
