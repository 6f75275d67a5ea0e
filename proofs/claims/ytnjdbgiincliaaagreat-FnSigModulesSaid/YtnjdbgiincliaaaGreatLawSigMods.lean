/- Whatever the signature that is drawn: SigModules answers as the model says; the modules are names of modules in strict order, and the module of every name in an item's type is among them. No condition beside the row's own. -/
import Derived.Test.YtnjdbgiincliaaaGreatM14
set_option linter.unusedVariables false
set_option linter.unusedSimpArgs false
namespace Go.Proofs.YtnjdbgiincliaaaGreat
open Go.Abs Go.RowKit Go.ChangeShapes Go.WideShapes Go.ChangeAt Go.ChangeMaps
set_option maxRecDepth 100000 in
theorem spec_DrawSigValidM (bs : List UInt8) (A : List Box) : ACalls Tryz.prog 110 [.aslice (byteRows bs)] A (fun r A'=>∃ s,r = .slice (sEs s) ∧ s.length ≤ 9 ∧ (∀ x ∈ s,SmX x) ∧ A' = A):=by
  refine acalls_enter (cf:=cf 10 [0,2,3]) foll Tryz.func110 Tryz.ntmps110 (by simp [cf]) ?_
  simp only [Tryz.f110,EnterK_some,zW,zX,zD,builtinA,isLeaf,const1,ustrA,simprocAttr,ca98,ca99,ca100,cf,Tryz.results110]
  refine callK_intro (by simp only [zW,zX,zD,builtinA,isLeaf,const1,ustrA,simprocAttr]; rfl) (spec_l17Open bs _) ?_ rfl
  rintro v A' ⟨bs',hb,rfl,rfl⟩
  simp only [zW,zX,zD,builtinA,isLeaf,const1,ustrA,simprocAttr,ca98,ca99,ca100,cf,Tryz.results110]
  refine callK_intro (by simp only [zW,zX,zD,builtinA,isLeaf,const1,ustrA,simprocAttr]; rfl) (spec_l2Draw bs' 0 A.length _ (by simp) (by simp [List.getD]) (by omega)) ?_ rfl
  rintro v A' ⟨s,p',rfl,hs,hsm,hp1,hp2,rfl⟩
  simp only [zW,zX,zD,builtinA,isLeaf,const1,ustrA,simprocAttr,ca98,ca99,ca100,cf,Tryz.results110]
  refine callK_intro (by simp only [zW,zX,zD,builtinA,isLeaf,const1,ustrA,simprocAttr]; rfl) (spec_l2Mutate bs' p' s (by omega) (fun x hx=>(hsm x hx).big) A.length _ (by simp) (by simp [List.getD]) (by omega)) ?_ rfl
  rintro v A' ⟨s',p2,rfl,hs',hsm',hq1,hq2,rfl⟩
  simp only [zW,zX,zD,builtinA,isLeaf,const1,ustrA,simprocAttr,ca98,ca99,ca100,cf,Tryz.results110]
  exact ⟨_,rfl,hs',hsm'⟩
set_option maxRecDepth 100000 in
theorem spec_DrawSigModules (bs : List UInt8) (A : List Box) : ACalls Tryz.prog 36 [.aslice (byteRows bs)] A (fun r A'=>∃ s,r = .slice (sEs s) ∧ s.length ≤ 9 ∧ (∀ x ∈ s,SmX x) ∧ A' = A):=by
  refine acalls_enter (cf:=cf 5 [0,2]) foll Tryz.func36 Tryz.ntmps36 (by simp [cf]) ?_
  simp only [Tryz.f36,EnterK_some,zW,zX,zD,builtinA,isLeaf,const1,ustrA,simprocAttr,ca110,cf,Tryz.results36]
  refine callK_intro (by simp only [zW,zX,zD,builtinA,isLeaf,const1,ustrA,simprocAttr]; rfl) (spec_DrawSigValidM bs _) ?_ rfl
  rintro v A' ⟨s,rfl,hs,hsm,rfl⟩
  simp only [zW,zX,zD,builtinA,isLeaf,const1,ustrA,simprocAttr,ca110,cf,Tryz.results36]
  exact ⟨_,rfl,hs,hsm⟩
theorem mdV_mod : ∀ v,okV v = true → ∀ q ∈ mdV v,q ≠ [] → moduleB q = true
  | .num,_,q,h=>by simp [mdV] at h
  | .nm m k,hv,q,h=>fun hq=>by
    simp only [mdV,List.mem_singleton] at h
    subst h
    simp only [okV,nmB,Bool.and_eq_true,Bool.or_eq_true,decide_eq_true_eq] at hv
    exact hv.1.resolve_left hq
  | .fn a b,hv,q,h=>by
    simp only [okV,Bool.and_eq_true] at hv
    rw [mdV,List.mem_append] at h
    exact h.elim (mdV_mod a hv.1 q) (mdV_mod b hv.2 q)
theorem bl_lt : ∀ x y : List UInt8,Op.bytesLess x y = decide (x < y)
  | [],[]=>by simp [Op.bytesLess]
  | _ :: _,[]=>by simp [Op.bytesLess]
  | [],_ :: _=>by simp [Op.bytesLess]
  | a :: x,b :: y=>by rw [Op.bytesLess,bl_lt x y,Bool.eq_iff_iff]; simp [List.cons_lt_cons_iff]
theorem bl_of {a b : List UInt8} (h : a ≠ b ∧ decide (a ≤ b) = true) : Op.bytesLess a b = true:=by
  rw [bl_lt,decide_eq_true_eq]
  exact Decidable.byContradiction fun k=>h.1 (List.le_antisymm (of_decide_eq_true h.2) (List.not_lt.1 k))
theorem nmsOf_len (τ : Ty) : (nmsOf τ).length ≤ 63:=by
  unfold nmsOf
  split
  · rename_i h
    have h1:=nmsV_len h.choose []
    have h2:=h.choose_spec.2.cnt
    rw [List.length_nil] at h1
    omega
  · simp
theorem md_facts {s : List SigI} {l : Nms} (h : MdIs s l) : (∀ q ∈ l,moduleB q = true) ∧ l.Pairwise (fun a b=>Op.bytesLess a b = true) ∧
    ∀ i,i < s.length → sigB s = true → ∀ p ∈ nmsOf (s.getD i si0).typ,p.1 ≠ [] → p.1 ∈ l:=by
  rcases h with ⟨ys,hr,h8,ho,rfl⟩ | ⟨hb,rfl⟩
  · obtain ⟨m1,m2⟩:=mdIs_of hr
    refine ⟨fun q hq=>?_,?_,fun i hi _ p hp hne=>?_⟩
    · rw [srt_mem] at hq
      obtain ⟨y,hy,hq1⟩:=List.mem_flatMap.1 hq.1
      obtain ⟨k,hk,rfl⟩:=List.mem_iff_getElem.1 hy
      have hio:=(hr.2 k (by rw [← hr.1]; exact hk)).2
      rw [show ys.getD k vi0 = ys[k] by simp [List.getD,hk]] at hio
      generalize ys[k] = y at *
      cases y with
      | ab n=>cases hq1
      | al n v=>exact mdV_mod v hio.2.2.2.ok q hq1 hq.2
      | va n v=>exact mdV_mod v hio.2.2.2.ok q hq1 hq.2
    · rw [mods_eq m2 (fun q=>Iff.rfl)]
      exact (letters_pair _ 26 (by omega)).imp bl_of
    · rw [srt_mem]
      refine ⟨?_,hne⟩
      have hi2 : i < ys.length:=by rw [hr.1]; exact hi
      have hm : ys.getD i vi0 ∈ ys:=Abs.getD_mem hi2
      refine List.mem_flatMap.2 ⟨_,hm,?_⟩
      have hio:=(hr.2 i hi).2
      generalize ys.getD i vi0 = y at *
      have hp1 : p.1 ∈ (nmsOf (s.getD i si0).typ).map Prod.fst:=List.mem_map.2 ⟨p,hp,rfl⟩
      cases y with
      | ab n =>
        rw [hio.2.2,nmsOf_bad (by decide)] at hp
        cases hp
      | al n v =>
        rw [hio.2.2.1,nmsOf_toTy hio.2.2.2,nmsV_fst] at hp1
        simpa [mdI] using hp1
      | va n v =>
        rw [hio.2.2.1,nmsOf_toTy hio.2.2.2,nmsV_fst] at hp1
        simpa [mdI] using hp1
  · exact ⟨by simp,by simp,fun i hi h=>by rw [hb] at h; cases h⟩
set_option maxRecDepth 100000 in
set_option maxHeartbeats 8000000 in
theorem sigMods_true (bs : List UInt8) : ACalls Tryz.prog 7 [.aslice (byteRows bs)] [] (fun v _=>v = .bool true):=by
  by_cases hb : 1048576 < bs.length
  · have e1 : decide ((1048576 : Int) < bs.length) = true:=decide_eq_true (by omega)
    refine acalls_enter (cf:=cf 87 [0,2,3,4,5,6,7,8,11,20,24,48,56,68,86]) foll Tryz.func7 Tryz.ntmps7 (by simp [cf]) ?_
    simp only [Tryz.f7,EnterK_some,zW,zX,zD,builtinA,isLeaf,const1,ustrA,simprocAttr,ti3,ti5,ti9,ti34,ti36,ti48,ti50,ti57,ti69,ca23,ca25,ca35,ca36,ca37,ca38,ca39,ca40,cf,Tryz.results7]
    simp only [zW,zX,zD,builtinA,isLeaf,const1,ustrA,simprocAttr,ti3,ti5,ti9,ti34,ti36,ti48,ti50,ti57,ti69,ca23,ca25,ca35,ca36,ca37,ca38,ca39,ca40,cf,Tryz.results7,byteRows_length,e1]
  have e1 : decide ((1048576 : Int) < bs.length) = false:=decide_eq_false (by omega)
  refine acalls_enter (cf:=cf 87 [0,2,3,4,5,6,7,8,11,20,24,48,56,68,86]) foll Tryz.func7 Tryz.ntmps7 (by simp [cf]) ?_
  simp only [Tryz.f7,EnterK_some,zW,zX,zD,builtinA,isLeaf,const1,ustrA,simprocAttr,ti3,ti5,ti9,ti34,ti36,ti48,ti50,ti57,ti69,ca23,ca25,ca35,ca36,ca37,ca38,ca39,ca40,cf,Tryz.results7]
  simp only [zW,zX,zD,builtinA,isLeaf,const1,ustrA,simprocAttr,ti3,ti5,ti9,ti34,ti36,ti48,ti50,ti57,ti69,ca23,ca25,ca35,ca36,ca37,ca38,ca39,ca40,cf,Tryz.results7,byteRows_length,e1]
  refine callK_intro (by simp only [zW,zX,zD,builtinA,isLeaf,const1,ustrA,simprocAttr]; rfl) (spec_DrawSigModules bs _) ?_ rfl
  rintro v A' ⟨s,rfl,hs,hsm,rfl⟩
  obtain ⟨hso,hsz⟩:=smx_all hs hsm
  obtain ⟨l,hl⟩:=md_ex3 s
  have hll:=md_small3 hl
  obtain ⟨hmod,hord,hin⟩:=md_facts hl
  have hspec : ∀ A,ACalls Tryz.prog 23 [.slice (sEs s)] A (NsOut A l):=fun A=>ns_out ((spec_SigModules s (by omega) hso A).mono fun r A' ⟨l',h1,h2⟩=>by rw [MdIs.one hl h1]; exact h2)
  have himpl : ∀ A,ACalls Tryz.prog 25 [.slice (sEs s)] A (NsOut A l):=fun A=>ns_out ((impl_SigModules s (by omega) hso A).mono fun r A' ⟨l',h1,h2⟩=>by rw [MdIs.one hl h1]; exact h2)
  have hval:=fun A=>impl_SigValid s (by omega) hso A
  have htx:=laws_mkTexts l (by omega)
  have hh:=fun q=>laws_mkHas l (by omega) q
  simp only [zW,zX,zD,builtinA,isLeaf,const1,ustrA,simprocAttr,ti3,ti5,ti9,ti34,ti36,ti48,ti50,ti57,ti69,ca23,ca25,ca35,ca36,ca37,ca38,ca39,ca40,cf,Tryz.results7]
  refine callO_intro (himpl _) ?_
  rintro w1 A3 hw1
  obtain ⟨B3,S3,hA3,hw3,hR3⟩:=hw1.own
  clear hw1 hA3
  simp only [zW,zX,zD,builtinA,isLeaf,const1,ustrA,simprocAttr,ti3,ti5,ti9,ti34,ti36,ti48,ti50,ti57,ti69,ca23,ca25,ca35,ca36,ca37,ca38,ca39,ca40,cf,Tryz.results7]
  refine callO_intro (hspec _) ?_
  rintro w2 A4 hw2
  obtain ⟨B4,S4,hA4,hw4,hR4⟩:=hw2.own
  clear hw2
  have hw : OwnN A4 l w1 S3:=hw3.frame fun i hi=>by rw [hA4,Abs.getD_append_left (hw3.low i hi)]
  clear hA4
  simp only [zW,zX,zD,builtinA,isLeaf,const1,ustrA,simprocAttr,ti3,ti5,ti9,ti34,ti36,ti48,ti50,ti57,ti69,ca23,ca25,ca35,ca36,ca37,ca38,ca39,ca40,cf,Tryz.results7]
  refine callO_intro (borrow0 (.cons hw.view (.cons hw4.view .nil)) rfl htx) ?_
  rintro r A' ⟨rfl,rfl⟩
  clear hw4 hw3
  simp only [zW,zX,zD,builtinA,isLeaf,const1,ustrA,simprocAttr,ti3,ti5,ti9,ti34,ti36,ti48,ti50,ti57,ti69,ca23,ca25,ca35,ca36,ca37,ca38,ca39,ca40,cf,Tryz.results7]
  refine aloop_intro [3,4,5] (fun e K=>∃ i,i ≤ l.length ∧ e = [(3,.slice (sEs s)),(4,w1),(5,.int .i64 (i : Nat))] ∧ K = A') (fun e _=>l.length - (intOf (Abs.look 5 e)).toNat) ?_ ?_
  · simp only [zW,zX,zD,builtinA,isLeaf,const1,ustrA,simprocAttr,ti3,ti5,ti9,ti34,ti36,ti48,ti50,ti57,ti69,ca23,ca25,ca35,ca36,ca37,ca38,ca39,ca40,cf,Tryz.results7]
    exact ⟨0,by omega,rfl⟩
  · rintro e K ⟨i,hi,rfl,rfl⟩
    rcases id hw with ⟨rfl,rfl,_⟩ | ⟨j,rfl,_,hg⟩
    · have d0 : decide ((i : Int) < 0) = false:=decide_eq_false (by omega)
      simp only [zW,zX,zD,builtinA,isLeaf,const1,ustrA,simprocAttr,ti3,ti5,ti9,ti34,ti36,ti48,ti50,ti57,ti69,ca23,ca25,ca35,ca36,ca37,ca38,ca39,ca40,cf,Tryz.results7,d0]
      clear hi e1
      have hwY : ∀ Y,OwnN (K ++ Y) _ .nils S3:=fun Y=>hw.frame fun i hi=>Abs.getD_append_left (hw.low i hi)
      refine aloop_intro [3,4,6] (fun e H=>∃ (i : Nat) (Y : List Box),i ≤ s.length ∧ e = [(3,.slice (sEs s)),(4,.nils),(6,.int .i64 i)] ∧ H = K ++ Y) (fun e _=>s.length - (intOf (Abs.look 6 e)).toNat) ?_ ?_
      · simp only [zW,zX,zD,builtinA,isLeaf,const1,ustrA,simprocAttr,ti3,ti5,ti9,ti34,ti36,ti48,ti50,ti57,ti69,ca23,ca25,ca35,ca36,ca37,ca38,ca39,ca40,cf,Tryz.results7]
        exact ⟨0,[],by omega,rfl,by simp⟩
      · rintro e H ⟨i,Y,hi,rfl,rfl⟩
        have hlen:=sEs_length s
        by_cases hlt : i < s.length
        · have d1 : decide ((i : Int) < (s.length : Int)) = true:=decide_eq_true (by omega)
          have pi : 0 ≤ (i : Int) ∧ (i : Int) < (s.length : Int):=by omega
          have hi1 : IntKind.i64.wrap ((i : Int) + 1) = ((i + 1 : Nat) : Int):=by rw [wrap64 (by omega) (by omega)]; rfl
          have hsg:=sEs_getD hlt
          have hini:=hin i hlt
          rw [sE] at hsg
          generalize (s.getD i si0).name = sn at *
          generalize (s.getD i si0).kind = sk at *
          generalize (s.getD i si0).typ = st at *
          simp only [zW,zX,zD,builtinA,isLeaf,const1,ustrA,simprocAttr,ti3,ti5,ti9,ti34,ti36,ti48,ti50,ti57,ti69,ca23,ca25,ca35,ca36,ca37,ca38,ca39,ca40,cf,Tryz.results7,hlen,d1]
          refine callO_intro (hval _) ?_
          rintro r A' ⟨rfl,rfl⟩
          cases hsb : sigB s with
          | false =>
            simp only [zW,zX,zD,builtinA,isLeaf,const1,ustrA,simprocAttr,ti3,ti5,ti9,ti34,ti36,ti48,ti50,ti57,ti69,ca23,ca25,ca35,ca36,ca37,ca38,ca39,ca40,cf,Tryz.results7]
          | true =>
            simp only [zW,zX,zD,builtinA,isLeaf,const1,ustrA,simprocAttr,ti3,ti5,ti9,ti34,ti36,ti48,ti50,ti57,ti69,ca23,ca25,ca35,ca36,ca37,ca38,ca39,ca40,cf,Tryz.results7,hlen,hsg]
            simp only [enc_take]
            refine ⟨⟨by omega,by omega,enc_length st⟩,by rw [enc_length]; omega,?_⟩
            refine callO_intro (impl_TypeNames st _) ?_
            rintro r A5 ⟨B5,hA5,hr,hB5⟩
            obtain ⟨Y5,hY5⟩ : ∃ Y5,A5 = K ++ Y5:=⟨Y ++ B5,by rw [hA5,List.append_assoc]⟩
            have hinn:=hini hsb
            have hnl:=nmsOf_len st
            clear hA5 hB5 hini hin
            subst hY5
            generalize nmsOf st = ns at *
            rcases hr with ⟨rfl,rfl⟩ | ⟨jn,rfl,hjn,hgn⟩
            · simp only [zW,zX,zD,builtinA,isLeaf,const1,ustrA,simprocAttr,ti3,ti5,ti9,ti34,ti36,ti48,ti50,ti57,ti69,ca23,ca25,ca35,ca36,ca37,ca38,ca39,ca40,cf,Tryz.results7]
              refine aloop_intro [3,4,6,7,8] (fun e H=>e = [(3,.slice (sEs s)),(4,.nils),(6,.int .i64 i),(7,.nils),(8,.int .i64 0)] ∧ H = K ++ Y5) (fun e _=>0) ?_ ?_
              · simp only [zW,zX,zD,builtinA,isLeaf,const1,ustrA,simprocAttr,ti3,ti5,ti9,ti34,ti36,ti48,ti50,ti57,ti69,ca23,ca25,ca35,ca36,ca37,ca38,ca39,ca40,cf,Tryz.results7]
              · rintro e H ⟨rfl,rfl⟩
                simp only [zW,zX,zD,builtinA,isLeaf,const1,ustrA,simprocAttr,ti3,ti5,ti9,ti34,ti36,ti48,ti50,ti57,ti69,ca23,ca25,ca35,ca36,ca37,ca38,ca39,ca40,cf,Tryz.results7,hi1,LoopK_eq]
                refine ⟨⟨i + 1,Y5,by omega,rfl,rfl⟩,?_⟩
                simp only [intOf]; omega
            · simp only [zW,zX,zD,builtinA,isLeaf,const1,ustrA,simprocAttr,ti3,ti5,ti9,ti34,ti36,ti48,ti50,ti57,ti69,ca23,ca25,ca35,ca36,ca37,ca38,ca39,ca40,cf,Tryz.results7]
              refine aloop_intro [3,4,6,7,8] (fun e H=>∃ (k : Nat),k ≤ ns.length ∧ e = [(3,.slice (sEs s)),(4,.nils),(6,.int .i64 i),(7,.own jn),(8,.int .i64 k)] ∧ H = K ++ Y5) (fun e _=>ns.length - (intOf (Abs.look 8 e)).toNat) ?_ ?_
              · simp only [zW,zX,zD,builtinA,isLeaf,const1,ustrA,simprocAttr,ti3,ti5,ti9,ti34,ti36,ti48,ti50,ti57,ti69,ca23,ca25,ca35,ca36,ca37,ca38,ca39,ca40,cf,Tryz.results7]
                exact ⟨0,by omega,rfl⟩
              · rintro e H ⟨k,hk,rfl,rfl⟩
                by_cases hkl : k < ns.length
                · have d2 : decide ((k : Int) < (ns.length : Int)) = true:=decide_eq_true (by omega)
                  have pk : 0 ≤ (k : Int) ∧ (k : Int) < (ns.length : Int):=by omega
                  have hk1 : IntKind.i64.wrap ((k : Int) + 1) = ((k + 1 : Nat) : Int):=by rw [wrap64 (by omega) (by omega)]; rfl
                  have hgk:=nrows_getD hkl
                  have hik:=hinn _ (Abs.getD_mem (d:=([],[])) hkl)
                  generalize ns.getD k ([],[]) = p at *
                  by_cases hp : p.1 = []
                  · simp only [zW,zX,zD,builtinA,isLeaf,const1,ustrA,simprocAttr,ti3,ti5,ti9,ti34,ti36,ti48,ti50,ti57,ti69,ca23,ca25,ca35,ca36,ca37,ca38,ca39,ca40,cf,Tryz.results7,hgn,nrows_length,hgk,d2,decide_eq_true hp]
                    refine ⟨pk,?_⟩
                    simp only [zW,zX,zD,builtinA,isLeaf,const1,ustrA,simprocAttr,ti3,ti5,ti9,ti34,ti36,ti48,ti50,ti57,ti69,ca23,ca25,ca35,ca36,ca37,ca38,ca39,ca40,cf,Tryz.results7,hk1,LoopK_eq]
                    refine ⟨⟨k + 1,by omega,rfl⟩,?_⟩
                    simp only [intOf]; omega
                  · have hpi:=decide_eq_true (hik hp)
                    simp only [zW,zX,zD,builtinA,isLeaf,const1,ustrA,simprocAttr,ti3,ti5,ti9,ti34,ti36,ti48,ti50,ti57,ti69,ca23,ca25,ca35,ca36,ca37,ca38,ca39,ca40,cf,Tryz.results7,hgn,nrows_length,hgk,d2,decide_eq_false hp]
                    refine ⟨pk,pk,?_⟩
                    refine callO_intro (borrow0 (.cons (hwY Y5).view (.cons (.leaf _ rfl) .nil)) rfl (hh p.1)) ?_
                    rintro r A' ⟨rfl,rfl⟩
                    rw [hpi]
                    simp only [zW,zX,zD,builtinA,isLeaf,const1,ustrA,simprocAttr,ti3,ti5,ti9,ti34,ti36,ti48,ti50,ti57,ti69,ca23,ca25,ca35,ca36,ca37,ca38,ca39,ca40,cf,Tryz.results7,hk1,LoopK_eq]
                    refine ⟨⟨k + 1,by omega,rfl⟩,?_⟩
                    simp only [intOf]; omega
                · have d2 : decide ((k : Int) < (ns.length : Int)) = false:=decide_eq_false (by omega)
                  simp only [zW,zX,zD,builtinA,isLeaf,const1,ustrA,simprocAttr,ti3,ti5,ti9,ti34,ti36,ti48,ti50,ti57,ti69,ca23,ca25,ca35,ca36,ca37,ca38,ca39,ca40,cf,Tryz.results7,hgn,nrows_length,d2,hi1,LoopK_eq]
                  refine ⟨⟨i + 1,Y5,by omega,rfl,rfl⟩,?_⟩
                  simp only [intOf]; omega
        · have d1 : decide ((i : Int) < (s.length : Int)) = false:=decide_eq_false (by omega)
          simp only [zW,zX,zD,builtinA,isLeaf,const1,ustrA,simprocAttr,ti3,ti5,ti9,ti34,ti36,ti48,ti50,ti57,ti69,ca23,ca25,ca35,ca36,ca37,ca38,ca39,ca40,cf,Tryz.results7,hlen,d1]
    · simp only [zW,zX,zD,builtinA,isLeaf,const1,ustrA,simprocAttr,ti3,ti5,ti9,ti34,ti36,ti48,ti50,ti57,ti69,ca23,ca25,ca35,ca36,ca37,ca38,ca39,ca40,cf,Tryz.results7,hg,aEs_length]
      refine condK_intro (fun h2=>?_) (fun h2=>?_)
      · have hi2 : i < l.length:=by simpa using h2
        have he:=aEs_getD hi2
        have hi1 : IntKind.i64.wrap ((i : Int) + 1) = ((i + 1 : Nat) : Int):=by rw [wrap64 (by omega) (by omega)]; rfl
        have pi : 0 ≤ (i : Int) ∧ (i : Int) < (l.length : Int):=by omega
        have hmi:=hmod _ (Abs.getD_mem (d:=[]) hi2)
        have hlt : 0 < i → Op.bytesLess (List.getD l (i - 1) []) (List.getD l i []) = true:=fun h0=>by
          have e:=List.pairwise_iff_getElem.1 hord (i - 1) i (by omega) hi2 (by omega)
          simpa [List.getD,hi2,show i - 1 < l.length by omega] using e
        by_cases h0 : 0 < i
        · have dg : decide ((0 : Int) < (i : Int)) = true:=decide_eq_true (by omega)
          have him : IntKind.i64.wrap ((i : Int) - 1) = ((i - 1 : Nat) : Int):=by rw [wrap64 (by omega) (by omega)]; omega
          have he1:=aEs_getD (l:=l) (show i - 1 < l.length by omega)
          have hbl:=hlt h0
          simp only [zW,zX,zD,builtinA,isLeaf,const1,ustrA,simprocAttr,ti3,ti5,ti9,ti34,ti36,ti48,ti50,ti57,ti69,ca23,ca25,ca35,ca36,ca37,ca38,ca39,ca40,cf,Tryz.results7,hg,he,he1,him,dg,aEs_length]
          refine .inl ⟨by kernel_rfl,by kernel_rfl,pi,?_⟩
          refine callDO_intro (impl_ModuleName _ _) ?_
          rw [hmi]
          simp only [zW,zX,zD,builtinA,isLeaf,const1,ustrA,simprocAttr,ti3,ti5,ti9,ti34,ti36,ti48,ti50,ti57,ti69,ca23,ca25,ca35,ca36,ca37,ca38,ca39,ca40,cf,Tryz.results7,hg,he,he1,him,dg,aEs_length]
          refine ⟨⟨by omega,by omega⟩,pi,?_⟩
          rw [hbl]
          simp only [zW,zX,zD,builtinA,isLeaf,const1,ustrA,simprocAttr,ti3,ti5,ti9,ti34,ti36,ti48,ti50,ti57,ti69,ca23,ca25,ca35,ca36,ca37,ca38,ca39,ca40,cf,Tryz.results7,hi1,LoopK_eq]
          refine ⟨⟨i + 1,by omega,rfl⟩,?_⟩
          simp only [intOf]; omega
        · have dg : decide ((0 : Int) < (i : Int)) = false:=decide_eq_false (by omega)
          simp only [zW,zX,zD,builtinA,isLeaf,const1,ustrA,simprocAttr,ti3,ti5,ti9,ti34,ti36,ti48,ti50,ti57,ti69,ca23,ca25,ca35,ca36,ca37,ca38,ca39,ca40,cf,Tryz.results7,hg,he,dg,aEs_length]
          refine .inl ⟨by kernel_rfl,by kernel_rfl,pi,?_⟩
          refine callDO_intro (impl_ModuleName _ _) ?_
          rw [hmi]
          simp only [zW,zX,zD,builtinA,isLeaf,const1,ustrA,simprocAttr,ti3,ti5,ti9,ti34,ti36,ti48,ti50,ti57,ti69,ca23,ca25,ca35,ca36,ca37,ca38,ca39,ca40,cf,Tryz.results7,hg,he,dg,aEs_length,hi1,LoopK_eq]
          refine ⟨⟨i + 1,by omega,rfl⟩,?_⟩
          simp only [intOf]; omega
      · simp only [zW,zX,zD,builtinA,isLeaf,const1,ustrA,simprocAttr,ti3,ti5,ti9,ti34,ti36,ti48,ti50,ti57,ti69,ca23,ca25,ca35,ca36,ca37,ca38,ca39,ca40,cf,Tryz.results7,h2]
        clear hi e1
        have hwY : ∀ Y,OwnN (K ++ Y) _ (.own j) S3:=fun Y=>hw.frame fun i hi=>Abs.getD_append_left (hw.low i hi)
        refine aloop_intro [3,4,6] (fun e H=>∃ (i : Nat) (Y : List Box),i ≤ s.length ∧ e = [(3,.slice (sEs s)),(4,(.own j)),(6,.int .i64 i)] ∧ H = K ++ Y) (fun e _=>s.length - (intOf (Abs.look 6 e)).toNat) ?_ ?_
        · simp only [zW,zX,zD,builtinA,isLeaf,const1,ustrA,simprocAttr,ti3,ti5,ti9,ti34,ti36,ti48,ti50,ti57,ti69,ca23,ca25,ca35,ca36,ca37,ca38,ca39,ca40,cf,Tryz.results7]
          exact ⟨0,[],by omega,rfl,by simp⟩
        · rintro e H ⟨i,Y,hi,rfl,rfl⟩
          have hlen:=sEs_length s
          by_cases hlt : i < s.length
          · have d1 : decide ((i : Int) < (s.length : Int)) = true:=decide_eq_true (by omega)
            have pi : 0 ≤ (i : Int) ∧ (i : Int) < (s.length : Int):=by omega
            have hi1 : IntKind.i64.wrap ((i : Int) + 1) = ((i + 1 : Nat) : Int):=by rw [wrap64 (by omega) (by omega)]; rfl
            have hsg:=sEs_getD hlt
            have hini:=hin i hlt
            rw [sE] at hsg
            generalize (s.getD i si0).name = sn at *
            generalize (s.getD i si0).kind = sk at *
            generalize (s.getD i si0).typ = st at *
            simp only [zW,zX,zD,builtinA,isLeaf,const1,ustrA,simprocAttr,ti3,ti5,ti9,ti34,ti36,ti48,ti50,ti57,ti69,ca23,ca25,ca35,ca36,ca37,ca38,ca39,ca40,cf,Tryz.results7,hlen,d1]
            refine callO_intro (hval _) ?_
            rintro r A' ⟨rfl,rfl⟩
            cases hsb : sigB s with
            | false =>
              simp only [zW,zX,zD,builtinA,isLeaf,const1,ustrA,simprocAttr,ti3,ti5,ti9,ti34,ti36,ti48,ti50,ti57,ti69,ca23,ca25,ca35,ca36,ca37,ca38,ca39,ca40,cf,Tryz.results7]
            | true =>
              simp only [zW,zX,zD,builtinA,isLeaf,const1,ustrA,simprocAttr,ti3,ti5,ti9,ti34,ti36,ti48,ti50,ti57,ti69,ca23,ca25,ca35,ca36,ca37,ca38,ca39,ca40,cf,Tryz.results7,hlen,hsg]
              simp only [enc_take]
              refine ⟨⟨by omega,by omega,enc_length st⟩,by rw [enc_length]; omega,?_⟩
              refine callO_intro (impl_TypeNames st _) ?_
              rintro r A5 ⟨B5,hA5,hr,hB5⟩
              obtain ⟨Y5,hY5⟩ : ∃ Y5,A5 = K ++ Y5:=⟨Y ++ B5,by rw [hA5,List.append_assoc]⟩
              have hinn:=hini hsb
              have hnl:=nmsOf_len st
              clear hA5 hB5 hini hin
              subst hY5
              generalize nmsOf st = ns at *
              rcases hr with ⟨rfl,rfl⟩ | ⟨jn,rfl,hjn,hgn⟩
              · simp only [zW,zX,zD,builtinA,isLeaf,const1,ustrA,simprocAttr,ti3,ti5,ti9,ti34,ti36,ti48,ti50,ti57,ti69,ca23,ca25,ca35,ca36,ca37,ca38,ca39,ca40,cf,Tryz.results7]
                refine aloop_intro [3,4,6,7,8] (fun e H=>e = [(3,.slice (sEs s)),(4,.own j),(6,.int .i64 i),(7,.nils),(8,.int .i64 0)] ∧ H = K ++ Y5) (fun e _=>0) ?_ ?_
                · simp only [zW,zX,zD,builtinA,isLeaf,const1,ustrA,simprocAttr,ti3,ti5,ti9,ti34,ti36,ti48,ti50,ti57,ti69,ca23,ca25,ca35,ca36,ca37,ca38,ca39,ca40,cf,Tryz.results7]
                · rintro e H ⟨rfl,rfl⟩
                  simp only [zW,zX,zD,builtinA,isLeaf,const1,ustrA,simprocAttr,ti3,ti5,ti9,ti34,ti36,ti48,ti50,ti57,ti69,ca23,ca25,ca35,ca36,ca37,ca38,ca39,ca40,cf,Tryz.results7,hi1,LoopK_eq]
                  refine ⟨⟨i + 1,Y5,by omega,rfl,rfl⟩,?_⟩
                  simp only [intOf]; omega
              · simp only [zW,zX,zD,builtinA,isLeaf,const1,ustrA,simprocAttr,ti3,ti5,ti9,ti34,ti36,ti48,ti50,ti57,ti69,ca23,ca25,ca35,ca36,ca37,ca38,ca39,ca40,cf,Tryz.results7]
                refine aloop_intro [3,4,6,7,8] (fun e H=>∃ (k : Nat),k ≤ ns.length ∧ e = [(3,.slice (sEs s)),(4,.own j),(6,.int .i64 i),(7,.own jn),(8,.int .i64 k)] ∧ H = K ++ Y5) (fun e _=>ns.length - (intOf (Abs.look 8 e)).toNat) ?_ ?_
                · simp only [zW,zX,zD,builtinA,isLeaf,const1,ustrA,simprocAttr,ti3,ti5,ti9,ti34,ti36,ti48,ti50,ti57,ti69,ca23,ca25,ca35,ca36,ca37,ca38,ca39,ca40,cf,Tryz.results7]
                  exact ⟨0,by omega,rfl⟩
                · rintro e H ⟨k,hk,rfl,rfl⟩
                  by_cases hkl : k < ns.length
                  · have d2 : decide ((k : Int) < (ns.length : Int)) = true:=decide_eq_true (by omega)
                    have pk : 0 ≤ (k : Int) ∧ (k : Int) < (ns.length : Int):=by omega
                    have hk1 : IntKind.i64.wrap ((k : Int) + 1) = ((k + 1 : Nat) : Int):=by rw [wrap64 (by omega) (by omega)]; rfl
                    have hgk:=nrows_getD hkl
                    have hik:=hinn _ (Abs.getD_mem (d:=([],[])) hkl)
                    generalize ns.getD k ([],[]) = p at *
                    by_cases hp : p.1 = []
                    · simp only [zW,zX,zD,builtinA,isLeaf,const1,ustrA,simprocAttr,ti3,ti5,ti9,ti34,ti36,ti48,ti50,ti57,ti69,ca23,ca25,ca35,ca36,ca37,ca38,ca39,ca40,cf,Tryz.results7,hgn,nrows_length,hgk,d2,decide_eq_true hp]
                      refine ⟨pk,?_⟩
                      simp only [zW,zX,zD,builtinA,isLeaf,const1,ustrA,simprocAttr,ti3,ti5,ti9,ti34,ti36,ti48,ti50,ti57,ti69,ca23,ca25,ca35,ca36,ca37,ca38,ca39,ca40,cf,Tryz.results7,hk1,LoopK_eq]
                      refine ⟨⟨k + 1,by omega,rfl⟩,?_⟩
                      simp only [intOf]; omega
                    · have hpi:=decide_eq_true (hik hp)
                      simp only [zW,zX,zD,builtinA,isLeaf,const1,ustrA,simprocAttr,ti3,ti5,ti9,ti34,ti36,ti48,ti50,ti57,ti69,ca23,ca25,ca35,ca36,ca37,ca38,ca39,ca40,cf,Tryz.results7,hgn,nrows_length,hgk,d2,decide_eq_false hp]
                      refine ⟨pk,pk,?_⟩
                      refine callO_intro (borrow0 (.cons (hwY Y5).view (.cons (.leaf _ rfl) .nil)) rfl (hh p.1)) ?_
                      rintro r A' ⟨rfl,rfl⟩
                      rw [hpi]
                      simp only [zW,zX,zD,builtinA,isLeaf,const1,ustrA,simprocAttr,ti3,ti5,ti9,ti34,ti36,ti48,ti50,ti57,ti69,ca23,ca25,ca35,ca36,ca37,ca38,ca39,ca40,cf,Tryz.results7,hk1,LoopK_eq]
                      refine ⟨⟨k + 1,by omega,rfl⟩,?_⟩
                      simp only [intOf]; omega
                  · have d2 : decide ((k : Int) < (ns.length : Int)) = false:=decide_eq_false (by omega)
                    simp only [zW,zX,zD,builtinA,isLeaf,const1,ustrA,simprocAttr,ti3,ti5,ti9,ti34,ti36,ti48,ti50,ti57,ti69,ca23,ca25,ca35,ca36,ca37,ca38,ca39,ca40,cf,Tryz.results7,hgn,nrows_length,d2,hi1,LoopK_eq]
                    refine ⟨⟨i + 1,Y5,by omega,rfl,rfl⟩,?_⟩
                    simp only [intOf]; omega
          · have d1 : decide ((i : Int) < (s.length : Int)) = false:=decide_eq_false (by omega)
            simp only [zW,zX,zD,builtinA,isLeaf,const1,ustrA,simprocAttr,ti3,ti5,ti9,ti34,ti36,ti48,ti50,ti57,ti69,ca23,ca25,ca35,ca36,ca37,ca38,ca39,ca40,cf,Tryz.results7,hlen,d1]
theorem sigMods_rec : ∀ t ∈ Tryz.f7.params.toList,Tryz.prog.readableRec t = true ∧ t < Tryz.prog.types.size:=by
  rw [Tryz.params7]
  intro t ht
  simp at ht
  subst ht
  exact ⟨by kernel_rfl,of_decide_eq_true (by kernel_rfl)⟩
set_option maxRecDepth 100000 in
theorem sigMods_lifted (os : Os) (started : os.Started) (H : Type) (enc' : TypeId × Value → H) :
    ReturnsInHanded {} Tryz.checked os 7 .any (Rows.fnSigModulesSpec.pre6 enc' Tryz.prog Tryz.f7 Rows.fnSigModulesRow.domain false) (Rows.fnSigModulesSpec.post enc' Tryz.prog Tryz.f7 false true false false):=by
  refine returnsInHanded_of_change (C:=Tryz.checked) ownk started (by kernel_rfl) Tryz.func7
    (ChangeSpec.witness6 (enc:=enc') (C:=Tryz.checked) false ⟨#[],#[.slice none 0 0],[]⟩ 8 (by kernel_rfl) (by kernel_rfl) (by kernel_rfl) (by kernel_rfl)) ?_
  intro W base args ds gs before hval0 hW hcnd _
  have hval : ∀ (j : Nat) t v,Tryz.f7.params[j]? = some t → args[j]? = some v → Value.okWide Tryz.prog W .any base t v:=hval0
  have hW':=hW
  obtain ⟨p,q,hA0,hV,rfl,hfz,hnd⟩:=hW
  have hA : DataW.TrodAll enc' Tryz.prog W 0 (fun _=>true) true Tryz.f7.params.toList args.toList ds p:=hA0
  rw [Tryz.params7] at hA hval
  have hlt:=hA.lt
  obtain ⟨v0,d0,rfl,rfl,h0⟩:=trodAll_one hA
  obtain ⟨rfl,rfl⟩:=trodVars_none hV
  obtain ⟨x0,r0⟩:=rv_bytes Tryz.underlying57 Tryz.underlying5 (by kernel_rfl) (hval 0 57 v0 rfl rfl) h0 (fun x hx=>hlt x (by simp [hx]))
  refine (law_calls (sigMods_true x0) (.cons r0 .nil)).mono fun e W' ⟨he,hb⟩=>?_
  subst he
  exact ⟨_,rfl,law_post laid sigMods_rec rfl Tryz.underlying4 (by kernel_rfl) ⟨rfl,rfl⟩ rfl hW' hb⟩
theorem sigMods_f9 : (Rows.fnSigModulesRow.inPlace == Tryz.pinned.checked.prog.inPlace 7) = true:=by kernel_rfl
theorem sigMods_f10 : (Rows.fnSigModulesRow.unfollowed == Tryz.pinned.checked.prog.unfollowed 7) = true:=by kernel_rfl
theorem sigMods_f11 : (Rows.fnSigModulesRow.recurses == Tryz.pinned.checked.prog.recurses 7) = true:=by kernel_rfl
theorem sigMods_f12 : (Rows.fnSigModulesRow.named == Tryz.pinned.checked.prog.varsNamed 7) = true:=by kernel_rfl
theorem sigMods_f16 : (Rows.fnSigModulesRow.loops == (Tryz.f7.params.toList ++ Rows.fnSigModulesSpec.plain.varTypes Tryz.pinned.checked.prog).any (Tryz.pinned.checked.prog.loopsFrom ·)) = true:=by kernel_rfl
theorem sigMods_f17 : (Rows.fnSigModulesRow.wideKeys == (Tryz.f7.params.toList ++ Rows.fnSigModulesSpec.plain.varTypes Tryz.pinned.checked.prog ++ Tryz.f7.resultTypes.toList).any (Tryz.pinned.checked.prog.wideKeysFrom ·)) = true:=by kernel_rfl
theorem sigMods_f22 : (Rows.fnSigModulesRow.plainKeys == Tryz.pinned.checked.prog.plainKeys) = true:=by kernel_rfl
theorem sigMods_f26 : (Rows.fnSigModulesRow.lifted == Tryz.pinned.checked.prog.liftsFinal) = true:=by kernel_rfl
theorem sigMods_f27 : (Tryz.pinned.checked.prog.make == some Rows.fnSigModulesRow.make) = true:=by kernel_rfl
theorem sigMods_facts : joinedFacts Tryz.pinned.checked.prog 7 Tryz.f7 Rows.fnSigModulesSpec Rows.fnSigModulesRow = true :=
  jf_of (by kernel_rfl) jp1 jp2 (by kernel_rfl) (by kernel_rfl) (by kernel_rfl) jp6 (by kernel_rfl) jp8 sigMods_f9 sigMods_f10 sigMods_f11 sigMods_f12 (by kernel_rfl) (by kernel_rfl) (by kernel_rfl) sigMods_f16 sigMods_f17 (by kernel_rfl) (by kernel_rfl) (by kernel_rfl) (by kernel_rfl) sigMods_f22 (by kernel_rfl) jp24 jp25 sigMods_f26 sigMods_f27 (by kernel_rfl) (by kernel_rfl) (by kernel_rfl) (by kernel_rfl)
theorem sigMods_holds : Rows.FnSigModulesSaid :=
  OpenClaim.holds_of_wide 7 Tryz.f7 rfl rfl rfl rfl rfl rfl rfl ⟨rfl,rfl,rfl,rfl,rfl⟩ rfl rfl rfl rfl rfl (by kernel_rfl) Tryz.func7 sigMods_facts
    (of_decide_eq_true (by kernel_rfl)) (by unfold Func.isWrapper; first | (rw [if_pos (by decide +kernel)]; kernel_rfl) | (rw [if_neg (by decide +kernel)]; exact ⟨rfl,rfl⟩))
    (fun os started H enc' _=>sigMods_lifted os started H enc')
end Go.Proofs.YtnjdbgiincliaaaGreat
