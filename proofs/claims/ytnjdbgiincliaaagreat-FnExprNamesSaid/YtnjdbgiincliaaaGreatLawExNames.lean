/- Whatever the expression that is drawn: ExprNames answers as the model says; the names are different, and an operand of a valid expression has no more names than the expression. No condition beside the row's own. -/
import Derived.Test.YtnjdbgiincliaaaGreatX13
set_option linter.unusedVariables false
set_option linter.unusedSimpArgs false
namespace Go.Proofs.YtnjdbgiincliaaaGreat
open Go.Abs Go.RowKit Go.ChangeShapes Go.WideShapes Go.ChangeAt Go.ChangeMaps
theorem okX' (x : Ex) : szX x ≤ 1048576 → x.Ok:=by
  induction x using Ex.ind with
  | h k i m n t ks ih =>
    intro h
    rw [szX] at h
    exact .mk (by omega) (by omega) (okSz t (by omega)) (by omega) fun y hy=>ih y hy (by have:=szXs_mem hy; omega)
set_option maxRecDepth 100000 in
theorem spec_DrawExprValid (bs : List UInt8) (A : List Box) : ACalls Tryz.prog 152 [.aslice (byteRows bs)] A (fun r A'=>∃ x,r = .agg (encX x) ∧ szX x ≤ 1200 ∧ A' = A):=by
  refine acalls_enter (cf:=cf 10 [0,2,3]) foll Tryz.func152 Tryz.ntmps152 (by simp [cf]) ?_
  simp only [Tryz.f152,EnterK_some,zW,zX,zD,builtinA,isLeaf,const1,ustrA,simprocAttr,ti39,ca98,ca230,ca231,cf,Tryz.results152]
  refine callK_intro (by simp only [zW,zX,zD,builtinA,isLeaf,const1,ustrA,simprocAttr]; rfl) (spec_l17Open bs _) ?_ rfl
  rintro v A' ⟨bs',hb,rfl,rfl⟩
  simp only [zW,zX,zD,builtinA,isLeaf,const1,ustrA,simprocAttr,ti39,ca98,ca230,ca231,cf,Tryz.results152]
  refine callK_intro (by simp only [zW,zX,zD,builtinA,isLeaf,const1,ustrA,simprocAttr]; rfl) (spec_l4Any bs' 0 (A.length + 1) _ (by simp) (by simp [List.getD]) (by omega)) ?_ rfl
  rintro v A' ⟨x,p1,rfl,hz,hp1,hp2,rfl⟩
  simp only [zW,zX,zD,builtinA,isLeaf,const1,ustrA,simprocAttr,ti39,ca98,ca230,ca231,cf,Tryz.results152,encX_length,encX_take,encX_drop,frzL_encX,encX_closed,Option.map_some]
  refine callK_intro (by simp only [zW,zX,zD,builtinA,isLeaf,const1,ustrA,simprocAttr,frzL_encX,Option.map_some]; rfl) (spec_l4Mutate bs' x (by omega) p1 (A.length + 1) _ (by simp) (by simp [List.getD]) (by omega)) ?_ rfl
  rintro v A' ⟨y,p2,rfl,hz2,hq1,hq2,rfl⟩
  simp only [zW,zX,zD,builtinA,isLeaf,const1,ustrA,simprocAttr,ti39,ca98,ca230,ca231,cf,Tryz.results152,encX_length,encX_take,encX_drop,frzL_encX,encX_closed,Option.map_some]
  exact ⟨y,rfl,by omega⟩
set_option maxRecDepth 100000 in
theorem spec_DrawExprNames (bs : List UInt8) (A : List Box) : ACalls Tryz.prog 65 [.aslice (byteRows bs)] A (fun r A'=>∃ x,r = .agg (encX x) ∧ szX x ≤ 1200 ∧ A' = A):=by
  refine acalls_enter (cf:=cf 5 [0,2]) foll Tryz.func65 Tryz.ntmps65 (by simp [cf]) ?_
  simp only [Tryz.f65,EnterK_some,zW,zX,zD,builtinA,isLeaf,const1,ustrA,simprocAttr,ti39,ca152,cf,Tryz.results65]
  refine callK_intro (by simp only [zW,zX,zD,builtinA,isLeaf,const1,ustrA,simprocAttr]; rfl) (spec_DrawExprValid bs _) ?_ rfl
  rintro v A' ⟨x,rfl,hz,rfl⟩
  simp only [zW,zX,zD,builtinA,isLeaf,const1,ustrA,simprocAttr,ti39,ca152,cf,Tryz.results65,encX_length,encX_take,encX_drop,frzL_encX,encX_closed,Option.map_some]
  exact ⟨x,rfl,hz⟩
def occE : VE → List XNm
  | .nm m k=>[(m,k)]
  | .fn _ b=>occE b
  | .app a b=>occE a ++ occE b
  | .add a b=>occE a ++ occE b
  | .ite c a b=>occE c ++ (occE a ++ occE b)
  | _=>[]
theorem addX_mem (ns : List XNm) (p q : XNm) : q ∈ addX ns p ↔ q ∈ ns ∨ q = p:=by
  unfold addX
  split
  · rename_i h
    exact ⟨.inl,fun h'=>h'.elim id fun e=>e ▸ h⟩
  · simp
theorem nmsE_mem : ∀ (v : VE) (ns : List XNm) (q : XNm),q ∈ nmsE ns v ↔ q ∈ ns ∨ q ∈ occE v
  | .var _,ns,q=>by simp [nmsE,occE]
  | .num _,ns,q=>by simp [nmsE,occE]
  | .nm m k,ns,q=>by simp [nmsE,occE,addX_mem]
  | .fn _ b,ns,q=>by rw [nmsE,nmsE_mem b,occE]
  | .app a b,ns,q=>by rw [nmsE,nmsE_mem b,nmsE_mem a,occE,List.mem_append,or_assoc]
  | .add a b,ns,q=>by rw [nmsE,nmsE_mem b,nmsE_mem a,occE,List.mem_append,or_assoc]
  | .ite c a b,ns,q=>by rw [nmsE,nmsE_mem b,nmsE_mem a,nmsE_mem c,occE,List.mem_append,List.mem_append,or_assoc,or_assoc]
theorem occE_kid {v k : VE} (h : k ∈ kidsE v) {q : XNm} (hq : q ∈ occE k) : q ∈ occE v:=by
  cases v <;> simp [kidsE] at h
  · subst h; exact hq
  · rcases h with rfl | rfl <;> simp [occE,hq]
  · rcases h with rfl | rfl <;> simp [occE,hq]
  · rcases h with rfl | rfl | rfl <;> simp [occE,hq]
theorem nd_le : ∀ (l1 l2 : List XNm),l1.Nodup → (∀ x ∈ l1,x ∈ l2) → l1.length ≤ l2.length
  | [],l2,_,_=>by simp
  | a :: l1,l2,hn,h=>by
    rw [List.nodup_cons] at hn
    have ha:=h a (.head _)
    have:=nd_le l1 (l2.erase a) hn.2 fun x hx=>(List.mem_erase_of_ne (a:=x) (b:=a) (fun e=>hn.1 (by rw [← e]; exact hx))).2 (h x (.tail _ hx))
    rw [List.length_erase_of_mem ha] at this
    have hp:=List.length_pos_of_mem ha
    simp only [List.length_cons]; omega
theorem nmsE_kid {v k : VE} (hv : okE v) (h : k ∈ kidsE v) : (nmsE [] k).length ≤ (nmsE [] v).length:=by
  have e0 : ([] : List XNm).Nodup ∧ nOkX []:=⟨by simp,by intro q hq; simp at hq⟩
  refine nd_le _ _ (nmsE_good k (okE_kid hv h) e0).1 fun q hq=>?_
  rw [nmsE_mem] at hq ⊢
  exact hq.imp id (occE_kid h)
theorem kid_okX : ∀ (v : VE),EOk v → ∀ b ∈ kidsE v,EOk b:=fun v h b hb=>by
  have h1:=h.ok; have h2:=h.dep; have h3:=h.cnt
  cases v with
  | var i=>simp [kidsE] at hb
  | num i=>simp [kidsE] at hb
  | nm m n=>simp [kidsE] at hb
  | fn t c =>
    simp [kidsE] at hb; simp only [okE,depE,cntE] at h1 h2 h3
    subst hb; exact ⟨h1.2,by omega,by omega⟩
  | app f a =>
    simp [kidsE] at hb; simp only [okE,depE,cntE] at h1 h2 h3
    rcases hb with rfl | rfl
    · exact ⟨h1.1,by omega,by omega⟩
    · exact ⟨h1.2,by omega,by omega⟩
  | add f a =>
    simp [kidsE] at hb; simp only [okE,depE,cntE] at h1 h2 h3
    rcases hb with rfl | rfl
    · exact ⟨h1.1,by omega,by omega⟩
    · exact ⟨h1.2,by omega,by omega⟩
  | ite c a e =>
    simp [kidsE] at hb; simp only [okE,depE,cntE] at h1 h2 h3
    rcases hb with rfl | rfl | rfl
    · exact ⟨h1.1,by omega,by omega⟩
    · exact ⟨h1.2.1,by omega,by omega⟩
    · exact ⟨h1.2.2,by omega,by omega⟩
theorem nmsOfX_good (x : Ex) : (nmsOfX x).Nodup ∧ nOkX (nmsOfX x):=by
  have e0 : ([] : List XNm).Nodup ∧ nOkX []:=⟨by simp,by intro q hq; simp at hq⟩
  rcases validX_cases x with ⟨v,rfl,hv⟩ | h
  · rw [nmsOfX_toX hv]; exact nmsE_good v hv.ok e0
  · rw [nmsOfX_bad h]; exact e0
theorem nm_same (p q : XNm) (hp : p.1.length ≤ 1 ∧ p.2.length ≤ 1) (hq : q.1.length ≤ 1 ∧ q.2.length ≤ 1) (A : List Box) : ACalls Tryz.prog 66 [.agg (nx_row p),.agg (nx_row q)] A (fun r A'=>r = .bool (decide (p = q)) ∧ A' = A):=by
  have e : ∀ p : XNm,encX (toX (.nm p.1 p.2)) = nx_row p:=fun p=>by rw [encX_node]; rfl
  have z : ∀ p : XNm,p.1.length ≤ 1 ∧ p.2.length ≤ 1 → szX (toX (.nm p.1 p.2)) ≤ 10000000:=fun p h=>by simp [toX,szX,szXs,sz,szs,ty0]; omega
  have h:=SX.impl_ExprSame (toX (.nm p.1 p.2)) (toX (.nm q.1 q.2)) (z p hp) (z q hq) A
  rw [e,e] at h
  have d : decide (toX (.nm p.1 p.2) = toX (.nm q.1 q.2)) = decide (p = q):=by
    rw [Bool.eq_iff_iff]; simp [toX,Prod.ext_iff]
  rw [d] at h
  exact h
theorem nx_len {A A' : List Box} {ns : List XNm} {r : AV} (h : NxNew A ns r A') (B : List Box) : lenA (A' ++ B) r = some ns.length ∧ isStr r = false:=by
  obtain ⟨C,hA,h | ⟨j,rfl,hj,hb⟩,_⟩:=h
  · obtain ⟨rfl,rfl⟩:=h; exact ⟨rfl,rfl⟩
  · refine ⟨?_,rfl⟩
    have hjl : j < A'.length:=live_lt hb (by simp)
    rw [lenA,Abs.getD_append_left hjl,hb,← xrowsN_length ns]
set_option maxRecDepth 100000 in
set_option maxHeartbeats 4000000 in
theorem exprNames_true (bs : List UInt8) : ACalls Tryz.prog 12 [.aslice (byteRows bs)] [] (fun v _=>v = .bool true):=by
  by_cases hb : 1048576 < bs.length
  · have e1 : decide ((1048576 : Int) < bs.length) = true:=decide_eq_true (by omega)
    refine acalls_enter (cf:=cf 82 [0,2,3,4,5,6,7,8,11,22,26,46,49,60,69,81]) foll Tryz.func12 Tryz.ntmps12 (by simp [cf]) ?_
    simp only [Tryz.f12,EnterK_some,zW,zX,zD,builtinA,isLeaf,const1,ustrA,simprocAttr,ti3,ti5,ti37,ti39,ti57,ca57,ca59,ca65,ca66,ca67,cf,Tryz.results12]
    simp only [zW,zX,zD,builtinA,isLeaf,const1,ustrA,simprocAttr,ti3,ti5,ti37,ti39,ti57,ca57,ca59,ca65,ca66,ca67,cf,Tryz.results12,byteRows_length,e1]
  have e1 : decide ((1048576 : Int) < bs.length) = false:=decide_eq_false (by omega)
  refine acalls_enter (cf:=cf 82 [0,2,3,4,5,6,7,8,11,22,26,46,49,60,69,81]) foll Tryz.func12 Tryz.ntmps12 (by simp [cf]) ?_
  simp only [Tryz.f12,EnterK_some,zW,zX,zD,builtinA,isLeaf,const1,ustrA,simprocAttr,ti3,ti5,ti37,ti39,ti57,ca57,ca59,ca65,ca66,ca67,cf,Tryz.results12]
  simp only [zW,zX,zD,builtinA,isLeaf,const1,ustrA,simprocAttr,ti3,ti5,ti37,ti39,ti57,ca57,ca59,ca65,ca66,ca67,cf,Tryz.results12,byteRows_length,e1]
  refine callK_intro (by simp only [zW,zX,zD,builtinA,isLeaf,const1,ustrA,simprocAttr]; rfl) (spec_DrawExprNames bs _) ?_ rfl
  rintro w A' ⟨x,rfl,hx,rfl⟩
  have hxo:=okX' x (by omega)
  obtain ⟨hnd,hok⟩:=nmsOfX_good x
  have hle:=few_names hnd hok
  have himpl:=fun A=>impl_ExprNames x (by omega) A
  have hspec:=fun A=>spec_ExprNames x hxo (by omega) A
  simp only [zW,zX,zD,builtinA,isLeaf,const1,ustrA,simprocAttr,ti3,ti5,ti37,ti39,ti57,ca57,ca59,ca65,ca66,ca67,cf,Tryz.results12,encX_length,encX_take,encX_drop,frzL_encX,encX_closed,Option.map_some]
  refine callO_intro (himpl _) ?_
  rintro r1 A1 hN1
  have hN1':=hN1
  obtain ⟨B1,hA1,hr1,_⟩:=hN1'
  have g0 : ∀ Y,(A1 ++ Y).getD 0 .dead = .cells (encX x):=fun Y=>by rw [hA1]; rfl
  have g00:=g0 []
  rw [List.append_nil] at g00
  have l0 : 0 < A1.length:=by rw [hA1]; simp
  clear hA1
  simp only [zW,zX,zD,builtinA,isLeaf,const1,ustrA,simprocAttr,ti3,ti5,ti37,ti39,ti57,ca57,ca59,ca65,ca66,ca67,cf,Tryz.results12,g00,l0,encX_length,encX_take]
  refine callO_intro (hspec _) ?_
  rintro r2 A2 hN2
  have hlk1:=nx_len hN1
  have hlk2:=nx_len hN2 []
  obtain ⟨B2,rfl,hr2,_⟩:=hN2
  rw [List.append_nil] at hlk2
  have hns : ∀ v,x = toX v → EOk v → nmsOfX x = nmsE [] v:=fun v h1 h2=>by rw [h1,nmsOfX_toX h2]
  obtain ⟨k1,k2⟩:=hlk1 B2
  obtain ⟨k3,k4⟩:=hlk2
  clear hN1 himpl hspec
  generalize nmsOfX x = ns at *
  have bn : decide (¬ (ns.length : Int) = (ns.length : Int)) = false:=by simp
  have bt : decide ((3 : Int) ≠ 3) = false:=by simp
  simp only [zW,zX,zD,builtinA,isLeaf,const1,ustrA,simprocAttr,ti3,ti5,ti37,ti39,ti57,ca57,ca59,ca65,ca66,ca67,cf,Tryz.results12,k1,k2,k3,k4,bn]
  have q1 : 0 < ns.length → ∃ j,r1 = .own j ∧ (A1 ++ B2).getD j .dead = .gr none 9 (xrowsN ns):=fun h=>by
    rcases hr1 with ⟨_,rfl⟩ | ⟨j,rfl,_,hb⟩
    · simp at h
    · exact ⟨j,rfl,by rw [Abs.getD_append_left (live_lt hb (by simp))]; exact hb⟩
  have q2 : 0 < ns.length → ∃ j,r2 = .own j ∧ (A1 ++ B2).getD j .dead = .gr none 9 (xrowsN ns):=fun h=>by
    rcases hr2 with ⟨_,rfl⟩ | ⟨j,rfl,_,hb⟩
    · simp at h
    · exact ⟨j,rfl,hb⟩
  clear hr1 hr2
  refine aloop_intro [3,4,5,6] (fun e K=>∃ i,i ≤ ns.length ∧ e = [(3,.ptr 0 0),(4,r1),(5,r2),(6,.int .i64 (i : Nat))] ∧ K = A1 ++ B2) (fun e _=>ns.length - (intOf (Abs.look 6 e)).toNat) ?_ ?_
  · simp only [zW,zX,zD,builtinA,isLeaf,const1,ustrA,simprocAttr,ti3,ti5,ti37,ti39,ti57,ca57,ca59,ca65,ca66,ca67,cf,Tryz.results12]
    exact ⟨0,by omega,rfl⟩
  · rintro e K ⟨i,hi,rfl,rfl⟩
    simp only [zW,zX,zD,builtinA,isLeaf,const1,ustrA,simprocAttr,ti3,ti5,ti37,ti39,ti57,ca57,ca59,ca65,ca66,ca67,cf,Tryz.results12,k1,k2]
    refine condK_intro (fun h2=>?_) (fun h2=>?_)
    · have hi2 : i < ns.length:=by simpa using h2
      obtain ⟨j1,rfl,b1⟩:=q1 (by omega)
      obtain ⟨j2,rfl,b2⟩:=q2 (by omega)
      have hg:=xrowsN_getD hi2
      have hi1 : IntKind.i64.wrap ((i : Int) + 1) = ((i + 1 : Nat) : Int):=by rw [wrap64 (by omega) (by omega)]; rfl
      have pi : 0 ≤ (i : Int) ∧ (i : Int) < (ns.length : Int):=by omega
      have hpi:=hok _ (Abs.getD_mem (d:=([],[])) hi2)
      have hs1:=nm_same _ _ hpi hpi (A1 ++ B2)
      simp only [decide_true] at hs1
      simp only [zW,zX,zD,builtinA,isLeaf,const1,ustrA,simprocAttr,ti3,ti5,ti37,ti39,ti57,ca57,ca59,ca65,ca66,ca67,cf,Tryz.results12,b1,b2,hg,xrowsN_length]
      refine .inl ⟨by kernel_rfl,by kernel_rfl,pi,pi,?_⟩
      refine callDO_intro hs1 ?_
      simp only [zW,zX,zD,builtinA,isLeaf,const1,ustrA,simprocAttr,ti3,ti5,ti37,ti39,ti57,ca57,ca59,ca65,ca66,ca67,cf,Tryz.results12,b1,hg,bt,xrowsN_length]
      refine ⟨pi,?_⟩
      refine aloop_intro [3,4,5,6,7] (fun e K=>∃ k,k ≤ i ∧ e = [(3,.ptr 0 0),(4,.own j1),(5,.own j2),(6,.int .i64 (i : Nat)),(7,.int .i64 (k : Nat))] ∧ K = A1 ++ B2) (fun e _=>i - (intOf (Abs.look 7 e)).toNat) ?_ ?_
      · simp only [zW,zX,zD,builtinA,isLeaf,const1,ustrA,simprocAttr,ti3,ti5,ti37,ti39,ti57,ca57,ca59,ca65,ca66,ca67,cf,Tryz.results12]
        exact ⟨0,by omega,rfl⟩
      · rintro e K ⟨k,hk,rfl,rfl⟩
        by_cases hki : k < i
        · have dk : decide ((k : Int) < (i : Int)) = true:=decide_eq_true (by omega)
          have pk : 0 ≤ (k : Int) ∧ (k : Int) < (ns.length : Int):=by omega
          have hk1 : IntKind.i64.wrap ((k : Int) + 1) = ((k + 1 : Nat) : Int):=by rw [wrap64 (by omega) (by omega)]; rfl
          have hgk:=xrowsN_getD (ns:=ns) (show k < ns.length by omega)
          have hpk:=hok _ (Abs.getD_mem (d:=([],[])) (show k < ns.length by omega))
          have hs2:=nm_same _ _ hpi hpk (A1 ++ B2)
          have hdf : decide (ns.getD i ([],[]) = ns.getD k ([],[])) = false:=decide_eq_false fun e=>by
            have:=List.pairwise_iff_getElem.1 hnd k i (by omega) hi2 hki
            simp [List.getD,hi2,show k < ns.length by omega] at e
            exact this e.symm
          rw [hdf] at hs2
          simp only [zW,zX,zD,builtinA,isLeaf,const1,ustrA,simprocAttr,ti3,ti5,ti37,ti39,ti57,ca57,ca59,ca65,ca66,ca67,cf,Tryz.results12,dk,b1,hg,hgk,xrowsN_length]
          refine .inl ⟨by kernel_rfl,by kernel_rfl,pi,pk,?_⟩
          refine callDO_intro hs2 ?_
          simp only [zW,zX,zD,builtinA,isLeaf,const1,ustrA,simprocAttr,ti3,ti5,ti37,ti39,ti57,ca57,ca59,ca65,ca66,ca67,cf,Tryz.results12,hk1,LoopK_eq]
          refine ⟨⟨k + 1,by omega,rfl⟩,?_⟩
          simp only [intOf]; omega
        · have dk : decide ((k : Int) < (i : Int)) = false:=decide_eq_false (by omega)
          simp only [zW,zX,zD,builtinA,isLeaf,const1,ustrA,simprocAttr,ti3,ti5,ti37,ti39,ti57,ca57,ca59,ca65,ca66,ca67,cf,Tryz.results12,dk,hi1,LoopK_eq]
          refine ⟨⟨i + 1,by omega,rfl⟩,?_⟩
          simp only [intOf]; omega
    · simp only [zW,zX,zD,builtinA,isLeaf,const1,ustrA,simprocAttr,ti3,ti5,ti37,ti39,ti57,ca57,ca59,ca65,ca66,ca67,cf,Tryz.results12,h2]
      clear q1 q2 k3 k4 hi bn bt
      have hval:=fun A=>impl_ExprValid x (by omega) A
      have hkn : ∀ y,szX y ≤ 1048576 → ∀ A,ACalls Tryz.prog 59 [.agg (encX y)] A (fun r A'=>NxNew A (nmsOfX y) r A'):=fun y hy A=>impl_ExprNames y hy A
      obtain ⟨xa,xb,xc,xd,xe,ks,rfl⟩ : ∃ a b c d e f,x = .mk a b c d e f:=by cases x; exact ⟨_,_,_,_,_,_,rfl⟩
      have hsz : ∀ y ∈ ks,szX y ≤ 1048576:=fun y hy=>by have:=szXs_mem hy; rw [szX] at hx; omega
      have hkl : ks.length ≤ 1200:=by rw [szX] at hx; omega
      have hkid : validX (.mk xa xb xc xd xe ks) = true → ∀ y ∈ ks,(nmsOfX y).length ≤ ns.length:=fun hv y hy=>by
        rcases validX_cases (.mk xa xb xc xd xe ks) with ⟨v,e,hvo⟩ | h
        · rw [hns v e hvo]
          rw [toX_node v] at e
          injection e with _ _ _ _ _ e
          rw [e] at hy
          obtain ⟨k,hk,rfl⟩:=List.mem_map.1 hy
          rw [nmsOfX_toX (kid_okX v hvo k hk)]
          exact nmsE_kid hvo.ok hk
        · rw [h] at hv; cases hv
      clear hns
      generalize validX (.mk xa xb xc xd xe ks) = vd at *
      rw [encX] at hval
      simp only [encX] at g0
      have hel:=encXs_length ks
      refine aloop_intro [3,4,8] (fun e K=>∃ (i : Nat) (Y : List Box),i ≤ ks.length ∧ e = [(3,.ptr 0 0),(4,r1),(8,.int .i64 (i : Nat))] ∧ K = A1 ++ B2 ++ Y) (fun e _=>ks.length - (intOf (Abs.look 8 e)).toNat) ?_ ?_
      · simp only [zW,zX,zD,builtinA,isLeaf,const1,ustrA,simprocAttr,ti3,ti5,ti37,ti39,ti57,ca57,ca59,ca65,ca66,ca67,cf,Tryz.results12]
        exact ⟨0,[],by omega,rfl,by simp⟩
      · rintro e K ⟨i,Y,hi,rfl,rfl⟩
        have gK:=g0 (B2 ++ Y)
        by_cases hlt : i < ks.length
        · have dl : decide ((i : Int) < (ks.length : Int)) = true:=decide_eq_true (by omega)
          have hg:=encXs_getD hlt
          have hmy : ks.getD i ex0 ∈ ks:=by simp [List.getD,hlt]
          have hcy:=hkn _ (hsz _ hmy)
          have hky:=fun hv=>hkid hv _ hmy
          generalize ks.getD i ex0 = y at *
          have hi1 : IntKind.i64.wrap ((i : Int) + 1) = ((i + 1 : Nat) : Int):=by rw [wrap64 (by omega) (by omega)]; rfl
          have pi : 0 ≤ (i : Int) ∧ (i : Int) < (ks.length : Int):=by omega
          simp only [zW,zX,zD,builtinA,isLeaf,const1,ustrA,simprocAttr,ti3,ti5,ti37,ti39,ti57,ca57,ca59,ca65,ca66,ca67,cf,Tryz.results12,gK,hel,dl]
          refine callO_intro (hval _) ?_
          rintro r A' ⟨rfl,rfl⟩
          cases vd with
          | false=>simp only [zW,zX,zD,builtinA,isLeaf,const1,ustrA,simprocAttr,ti3,ti5,ti37,ti39,ti57,ca57,ca59,ca65,ca66,ca67,cf,Tryz.results12]
          | true =>
            simp only [zW,zX,zD,builtinA,isLeaf,const1,ustrA,simprocAttr,ti3,ti5,ti37,ti39,ti57,ca57,ca59,ca65,ca66,ca67,cf,Tryz.results12,gK,hel,hg,encX_length,encX_take]
            refine ⟨pi,?_⟩
            refine callO_intro (hcy _) ?_
            rintro r A5 hN5
            obtain ⟨m1,m2⟩:=nx_len hN5 []
            obtain ⟨B5,rfl,_,_⟩:=hN5
            obtain ⟨n1,_⟩:=hlk1 (B2 ++ Y ++ B5)
            simp only [List.append_assoc,List.append_nil] at m1 n1
            have dg : decide ((ns.length : Int) < ((nmsOfX y).length : Int)) = false:=decide_eq_false (by have:=hky rfl; omega)
            simp only [zW,zX,zD,builtinA,isLeaf,const1,ustrA,simprocAttr,ti3,ti5,ti37,ti39,ti57,ca57,ca59,ca65,ca66,ca67,cf,Tryz.results12,m1,m2,n1,k2,dg,hi1,LoopK_eq]
            refine ⟨⟨i + 1,Y ++ B5,by omega,rfl,by simp⟩,?_⟩
            simp only [intOf]; omega
        · have dl : decide ((i : Int) < (ks.length : Int)) = false:=decide_eq_false (by omega)
          simp only [zW,zX,zD,builtinA,isLeaf,const1,ustrA,simprocAttr,ti3,ti5,ti37,ti39,ti57,ca57,ca59,ca65,ca66,ca67,cf,Tryz.results12,gK,hel,dl]
theorem exprNames_rec : ∀ t ∈ Tryz.f12.params.toList,Tryz.prog.readableRec t = true ∧ t < Tryz.prog.types.size:=by
  rw [Tryz.params12]
  intro t ht
  simp at ht
  subst ht
  exact ⟨by kernel_rfl,of_decide_eq_true (by kernel_rfl)⟩
set_option maxRecDepth 100000 in
theorem exprNames_lifted (os : Os) (started : os.Started) (H : Type) (enc' : TypeId × Value → H) :
    ReturnsInHanded {} Tryz.checked os 12 .any (Rows.fnExprNamesSpec.pre6 enc' Tryz.prog Tryz.f12 Rows.fnExprNamesRow.domain false) (Rows.fnExprNamesSpec.post enc' Tryz.prog Tryz.f12 false true false false):=by
  refine returnsInHanded_of_change (C:=Tryz.checked) ownk started (by kernel_rfl) Tryz.func12
    (ChangeSpec.witness6 (enc:=enc') (C:=Tryz.checked) false ⟨#[],#[.slice none 0 0],[]⟩ 8 (by kernel_rfl) (by kernel_rfl) (by kernel_rfl) (by kernel_rfl)) ?_
  intro W base args ds gs before hval0 hW hcnd _
  have hval : ∀ (j : Nat) t v,Tryz.f12.params[j]? = some t → args[j]? = some v → Value.okWide Tryz.prog W .any base t v:=hval0
  have hW':=hW
  obtain ⟨p,q,hA0,hV,rfl,hfz,hnd⟩:=hW
  have hA : DataW.TrodAll enc' Tryz.prog W 0 (fun _=>true) true Tryz.f12.params.toList args.toList ds p:=hA0
  rw [Tryz.params12] at hA hval
  have hlt:=hA.lt
  obtain ⟨v0,d0,rfl,rfl,h0⟩:=trodAll_one hA
  obtain ⟨rfl,rfl⟩:=trodVars_none hV
  obtain ⟨x0,r0⟩:=rv_bytes Tryz.underlying57 Tryz.underlying5 (by kernel_rfl) (hval 0 57 v0 rfl rfl) h0 (fun x hx=>hlt x (by simp [hx]))
  refine (law_calls (exprNames_true x0) (.cons r0 .nil)).mono fun e W' ⟨he,hb⟩=>?_
  subst he
  exact ⟨_,rfl,law_post laid exprNames_rec rfl Tryz.underlying4 (by kernel_rfl) ⟨rfl,rfl⟩ rfl hW' hb⟩
theorem exprNames_f9 : (Rows.fnExprNamesRow.inPlace == Tryz.pinned.checked.prog.inPlace 12) = true:=by kernel_rfl
theorem exprNames_f10 : (Rows.fnExprNamesRow.unfollowed == Tryz.pinned.checked.prog.unfollowed 12) = true:=by kernel_rfl
theorem exprNames_f11 : (Rows.fnExprNamesRow.recurses == Tryz.pinned.checked.prog.recurses 12) = true:=by kernel_rfl
theorem exprNames_f12 : (Rows.fnExprNamesRow.named == Tryz.pinned.checked.prog.varsNamed 12) = true:=by kernel_rfl
theorem exprNames_f16 : (Rows.fnExprNamesRow.loops == (Tryz.f12.params.toList ++ Rows.fnExprNamesSpec.plain.varTypes Tryz.pinned.checked.prog).any (Tryz.pinned.checked.prog.loopsFrom ·)) = true:=by kernel_rfl
theorem exprNames_f17 : (Rows.fnExprNamesRow.wideKeys == (Tryz.f12.params.toList ++ Rows.fnExprNamesSpec.plain.varTypes Tryz.pinned.checked.prog ++ Tryz.f12.resultTypes.toList).any (Tryz.pinned.checked.prog.wideKeysFrom ·)) = true:=by kernel_rfl
theorem exprNames_f22 : (Rows.fnExprNamesRow.plainKeys == Tryz.pinned.checked.prog.plainKeys) = true:=by kernel_rfl
theorem exprNames_f26 : (Rows.fnExprNamesRow.lifted == Tryz.pinned.checked.prog.liftsFinal) = true:=by kernel_rfl
theorem exprNames_f27 : (Tryz.pinned.checked.prog.make == some Rows.fnExprNamesRow.make) = true:=by kernel_rfl
theorem exprNames_facts : joinedFacts Tryz.pinned.checked.prog 12 Tryz.f12 Rows.fnExprNamesSpec Rows.fnExprNamesRow = true :=
  jf_of (by kernel_rfl) jp1 jp2 (by kernel_rfl) (by kernel_rfl) (by kernel_rfl) jp6 (by kernel_rfl) jp8 exprNames_f9 exprNames_f10 exprNames_f11 exprNames_f12 (by kernel_rfl) (by kernel_rfl) (by kernel_rfl) exprNames_f16 exprNames_f17 (by kernel_rfl) (by kernel_rfl) (by kernel_rfl) (by kernel_rfl) exprNames_f22 (by kernel_rfl) jp24 jp25 exprNames_f26 exprNames_f27 (by kernel_rfl) (by kernel_rfl) (by kernel_rfl) (by kernel_rfl)
theorem exprNames_holds : Rows.FnExprNamesSaid :=
  OpenClaim.holds_of_wide 12 Tryz.f12 rfl rfl rfl rfl rfl rfl rfl ⟨rfl,rfl,rfl,rfl,rfl⟩ rfl rfl rfl rfl rfl (by kernel_rfl) Tryz.func12 exprNames_facts
    (of_decide_eq_true (by kernel_rfl)) (by unfold Func.isWrapper; first | (rw [if_pos (by decide +kernel)]; kernel_rfl) | (rw [if_neg (by decide +kernel)]; exact ⟨rfl,rfl⟩))
    (fun os started H enc' _=>exprNames_lifted os started H enc')
end Go.Proofs.YtnjdbgiincliaaaGreat
