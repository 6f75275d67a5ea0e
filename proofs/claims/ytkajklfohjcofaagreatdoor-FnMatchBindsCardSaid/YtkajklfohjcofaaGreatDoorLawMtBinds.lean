/- Whatever the two signatures that are drawn: MatchBinds answers as the model says; where the first one matches the second one, each value that the second one wants is offered by the first one, and its type is the wanted one with the bindings put in, where that can be done. No condition beside the row's own. -/
import Derived.Test.YtkajklfohjcofaaGreatDoorB18
set_option linter.unusedVariables false
set_option linter.unusedSimpArgs false
namespace Go.Proofs.YtkajklfohjcofaaGreatDoor
open Go.Abs Go.RowKit Go.ChangeShapes Go.WideShapes Go.ChangeAt Go.ChangeMaps
theorem mb_sz {a b : List SigI} {o : Option (List BdI)} (hb : ∀ x ∈ b,x.Ok) (h : MbIs a b o) : ∀ x ∈ o.getD [],sz x.typ ≤ 1048576:=by
  cases o with
  | none=>simp
  | some bs =>
    rcases h with ⟨hs,ws,h1,h2,h3⟩ | ⟨_,h⟩
    · rw [Option.getD_some,mbO_known hs _ _ h3.symm]
      exact ofB_sz (knownB_ok (rdN_vok h1).2 ws)
    · cases h
theorem mb_all {a b : List SigI} {o : Option (List BdI)} (hb : ∀ x ∈ b,x.Ok) (h : MbIs a b o) : (o.getD []).length ≤ 8 ∧ ∀ x ∈ o.getD [],x.Ok:=by
  cases o with
  | none=>exact ⟨by simp,by simp⟩
  | some bs =>
    rcases h with ⟨hs,ws,h1,h2,h3⟩ | ⟨_,h⟩
    · have hbs:=mbO_known hs _ _ h3.symm
      have hwl:=(rdN_vok h2).1
      have hkl:=knownB_len hs ws
      rw [Option.getD_some]
      refine ⟨by rw [hbs,List.length_map]; omega,fun x hx=>?_⟩
      obtain ⟨h4,h5⟩:=mbO_ok (rdN_vok h1).2 h3.symm
      obtain ⟨n,f,h6,h7,rfl⟩:=h5 x hx
      obtain ⟨ys,h8,hr,hord,hn⟩:=h2
      have hwy : ws.map absO = ys.map absO:=by rw [(normL_fit hn).2,absO_zs ys _ (Nat.le_refl _),List.take_length]
      rw [hwy] at h6
      obtain ⟨y,hy,hyn⟩:=List.mem_map.1 h6
      obtain ⟨k,hk,rfl⟩:=List.mem_iff_getElem.1 hy
      have hsi:=hr.2 k (by rw [← hr.1]; exact hk)
      have e : ys.getD k vi0 = ys[k]:=by simp [List.getD,hk]
      rw [e] at hsi
      have hnl : n.length < 2 ^ 63:=by
        have h9:=(hb _ (si_mem (l:=b) (i:=k) (by rw [← hr.1]; exact hk))).1
        have h10:=itemOf_si hsi.2
        generalize ys[k] = y at *
        cases y with
        | ab n'=>simp only [absO,Option.some.injEq] at hyn; subst hyn; rw [h10] at h9; exact h9
        | al n' v=>cases hyn
        | va n' v=>cases hyn
      exact ⟨by simp,hnl,ok_toTyS f h7.ok⟩
    · cases h
set_option maxRecDepth 100000 in
set_option maxHeartbeats 8000000 in
theorem mtBinds_true (bs : List UInt8) : ACalls Tryz.prog 10 [.aslice (byteRows bs)] [] (fun v _=>v = .bool true):=by
  by_cases hb : 1048576 < bs.length
  · have e1 : decide ((1048576 : Int) < bs.length) = true:=decide_eq_true (by omega)
    refine acalls_enter (cf:=cf 109 [0,2,3,4,5,6,7,8,9,10,11,12,13,14,15,18,54,66,108]) foll Tryz.func10 Tryz.ntmps10 (by simp [cf]) ?_
    simp only [Tryz.f10,EnterK_some,zW,zX,zD,builtinA,isLeaf,const1,ustrA,simprocAttr,ti3,ti4,ti5,ti9,ti25,ti34,ti45,ti49,ca18,ca30,ca31,ca32,ca33,ca34,ca35,ca36,cf,Tryz.results10]
    simp only [zW,zX,zD,builtinA,isLeaf,const1,ustrA,simprocAttr,ti3,ti4,ti5,ti9,ti25,ti34,ti45,ti49,ca18,ca30,ca31,ca32,ca33,ca34,ca35,ca36,cf,Tryz.results10,byteRows_length,e1]
  have e1 : decide ((1048576 : Int) < bs.length) = false:=decide_eq_false (by omega)
  refine acalls_enter (cf:=cf 109 [0,2,3,4,5,6,7,8,9,10,11,12,13,14,15,18,54,66,108]) foll Tryz.func10 Tryz.ntmps10 (by simp [cf]) ?_
  simp only [Tryz.f10,EnterK_some,zW,zX,zD,builtinA,isLeaf,const1,ustrA,simprocAttr,ti3,ti4,ti5,ti9,ti25,ti34,ti45,ti49,ca18,ca30,ca31,ca32,ca33,ca34,ca35,ca36,cf,Tryz.results10]
  simp only [zW,zX,zD,builtinA,isLeaf,const1,ustrA,simprocAttr,ti3,ti4,ti5,ti9,ti25,ti34,ti45,ti49,ca18,ca30,ca31,ca32,ca33,ca34,ca35,ca36,cf,Tryz.results10,byteRows_length,e1]
  refine callK_intro (by simp only [zW,zX,zD,builtinA,isLeaf,const1,ustrA,simprocAttr]; rfl) (spec_DrawMatchBinds bs _) ?_ rfl
  rintro v A' ⟨s,t,rfl,hs,hsm,ht,htm,rfl⟩
  obtain ⟨hso,hsz⟩:=smx_all hs hsm
  obtain ⟨hto,htz⟩:=smx_all ht htm
  obtain ⟨c,p,hM⟩:=mtIs_ex s t
  obtain ⟨o,ho⟩:=mbIs_ex s t
  obtain ⟨hxl,hxo⟩:=mb_all (fun x hx=>(hto x hx).1) ho
  have hxz:=mb_sz (fun x hx=>(hto x hx).1) ho
  have hspec : ∀ A,ACalls Tryz.prog 32 [.slice (sEs s),.slice (sEs t)] A (fun r A'=>r = .tuple [.slice (bEs (o.getD [])),.bool o.isSome] ∧ A' = A):=fun A=>(spec_MatchBinds s t (by omega) hso (by omega) hto A).mono fun r A' h=>by
    obtain ⟨o',h1,h2,h3⟩:=h
    rw [mbIs_one h1 ho] at h2
    exact ⟨h2,h3⟩
  have himpl : ∀ A,ACalls Tryz.prog 31 [.slice (sEs s),.slice (sEs t)] A (MbNew A (o.getD []) o.isSome):=mb_call fun A=>(impl_MatchBinds s t (by omega) hso (by omega) hto A).mono fun r A' h=>by
    obtain ⟨o',h1,h2⟩:=h
    rw [mbIs_one h1 ho] at h2
    exact h2
  have hmk:=laws_mkBinds (o.getD []) (by omega) hxz
  have hms:=fun A=>impl_MatchSigF hM (by omega) hso (by omega) hto A
  have hne : ∀ x : Bool,decide (¬ x = x) = false:=fun x=>by simp
  have hlen:=sEs_length t
  simp only [zW,zX,zD,builtinA,isLeaf,const1,ustrA,simprocAttr,ti3,ti4,ti5,ti9,ti25,ti34,ti45,ti49,ca18,ca30,ca31,ca32,ca33,ca34,ca35,ca36,cf,Tryz.results10]
  refine callO_intro (himpl _) ?_
  rintro r A1 ⟨B1,v1,S1,hA1,hB1,rfl,hv1,hK1,hN1,hR1⟩
  clear hA1 hB1 hR1
  simp only [zW,zX,zD,builtinA,isLeaf,const1,ustrA,simprocAttr,ti3,ti4,ti5,ti9,ti25,ti34,ti45,ti49,ca18,ca30,ca31,ca32,ca33,ca34,ca35,ca36,cf,Tryz.results10]
  refine callO_intro (hspec _) ?_
  rintro r A2 ⟨rfl,rfl⟩
  simp only [zW,zX,zD,builtinA,isLeaf,const1,ustrA,simprocAttr,ti3,ti4,ti5,ti9,ti25,ti34,ti45,ti49,ca18,ca30,ca31,ca32,ca33,ca34,ca35,ca36,cf,Tryz.results10,hne]
  refine callO_intro (borrow0 (.cons hK1.view (.cons (.leaf _ rfl) .nil)) rfl hmk) ?_
  rintro r A' ⟨rfl,rfl⟩
  cases o with
  | none =>
    simp only [zW,zX,zD,builtinA,isLeaf,const1,ustrA,simprocAttr,ti3,ti4,ti5,ti9,ti25,ti34,ti45,ti49,ca18,ca30,ca31,ca32,ca33,ca34,ca35,ca36,cf,Tryz.results10,hne,Option.isSome_none]
    refine callO_intro (borrow0 (.cons hK1.view (.cons (.leaf _ rfl) .nil)) rfl hmk) ?_
    rintro r A' ⟨rfl,rfl⟩
    simp only [zW,zX,zD,builtinA,isLeaf,const1,ustrA,simprocAttr,ti3,ti4,ti5,ti9,ti25,ti34,ti45,ti49,ca18,ca30,ca31,ca32,ca33,ca34,ca35,ca36,cf,Tryz.results10]
  | some xs =>
    simp only [Option.getD_some] at hxl hxo hK1
    simp only [zW,zX,zD,builtinA,isLeaf,const1,ustrA,simprocAttr,ti3,ti4,ti5,ti9,ti25,ti34,ti45,ti49,ca18,ca30,ca31,ca32,ca33,ca34,ca35,ca36,cf,Tryz.results10,hne,Option.isSome_some]
    refine callO_intro (hms _) ?_
    rintro r A2 ⟨rfl,rfl⟩
    by_cases hc : c = 0
    · subst hc
      have hd0 : decide (¬ (0 : Int) = 0) = false:=by simp
      have hKv : ∀ Y,View (A2 ++ Y) v1 (.slice (bEs xs)):=fun Y=>(hK1.frame (A':=A2 ++ Y) fun i hi=>Abs.getD_append_left (hK1.low i hi)).view
      simp only [zW,zX,zD,builtinA,isLeaf,const1,ustrA,simprocAttr,ti3,ti4,ti5,ti9,ti25,ti34,ti45,ti49,ca18,ca30,ca31,ca32,ca33,ca34,ca35,ca36,cf,Tryz.results10,hd0]
      refine aloop_intro [3,4,5,9] (fun e K=>∃ (i : Nat) (Y : List Box),i ≤ t.length ∧ e = [(3,.slice (sEs s)),(4,.slice (sEs t)),(5,v1),(9,.int .i64 i)] ∧ K = A2 ++ Y) (fun e _=>t.length - (intOf (Abs.look 9 e)).toNat) ?_ ?_
      · simp only [zW,zX,zD,builtinA,isLeaf,const1,ustrA,simprocAttr,ti3,ti4,ti5,ti9,ti25,ti34,ti45,ti49,ca18,ca30,ca31,ca32,ca33,ca34,ca35,ca36,cf,Tryz.results10]
        exact ⟨0,[],by omega,rfl,by simp⟩
      · rintro e K ⟨i,Y,hi,rfl,rfl⟩
        simp only [zW,zX,zD,builtinA,isLeaf,const1,ustrA,simprocAttr,ti3,ti4,ti5,ti9,ti25,ti34,ti45,ti49,ca18,ca30,ca31,ca32,ca33,ca34,ca35,ca36,cf,Tryz.results10,hlen]
        refine condK_intro (fun h2=>?_) (fun h2=>?_)
        · have hi2 : i < t.length:=by simpa using h2
          have hi1 : IntKind.i64.wrap ((i : Int) + 1) = ((i + 1 : Nat) : Int):=by rw [wrap64 (by omega) (by omega)]; rfl
          have pi : (0 : Int) ≤ (i : Int) ∧ (i : Int) < (t.length : Int):=⟨by omega,by omega⟩
          have hsg:=sEs_getD hi2
          rw [sE] at hsg
          generalize (t.getD i si0).name = n at *
          generalize (t.getD i si0).kind = kk at *
          generalize (t.getD i si0).typ = tt at *
          obtain ⟨o1,ho1⟩:=meanIs_ex t (true,n)
          obtain ⟨o2,ho2⟩:=subIs_ex (oTyS o1) xs
          obtain ⟨o3,ho3⟩:=meanIs_ex s (true,n)
          obtain ⟨k1,m1,n1,ks1,hρ1⟩ : ∃ k m n ks,oTyS o1 = .mk k m n ks:=by cases oTyS o1; exact ⟨_,_,_,_,rfl⟩
          obtain ⟨k2,m2,n2,ks2,hρ2⟩ : ∃ k m n ks,oTyS o2 = .mk k m n ks:=by cases oTyS o2; exact ⟨_,_,_,_,rfl⟩
          obtain ⟨k3,m3,n3,ks3,hρ3⟩ : ∃ k m n ks,oTyS o3 = .mk k m n ks:=by cases oTyS o3; exact ⟨_,_,_,_,rfl⟩
          have hF1 : ∀ A,ACalls Tryz.prog 34 [.slice (sEs t),.str n] A (OutS A k1 m1 n1 ks1 o1.isSome):=fun A=>(new_call (fun A=>(impl_FindVal t (by omega) hto n A).mono fun r A' h=>by
            obtain ⟨o',h1,h2⟩:=h
            rw [meanIs_one h1 ho1] at h2
            exact h2) A).mono fun r A' h=>outS_of hρ1 h
          have hF3 : ∀ A,ACalls Tryz.prog 34 [.slice (sEs s),.str n] A (OutS A k3 m3 n3 ks3 o3.isSome):=fun A=>(new_call (fun A=>(impl_FindVal s (by omega) hso n A).mono fun r A' h=>by
            obtain ⟨o',h1,h2⟩:=h
            rw [meanIs_one h1 ho3] at h2
            exact h2) A).mono fun r A' h=>outS_of hρ3 h
          simp only [zW,zX,zD,builtinA,isLeaf,const1,ustrA,simprocAttr,ti3,ti4,ti5,ti9,ti25,ti34,ti45,ti49,ca18,ca30,ca31,ca32,ca33,ca34,ca35,ca36,cf,Tryz.results10,hlen,hsg,enc_length]
          refine ⟨pi,?_⟩
          refine callO_intro (hF1 _) ?_
          rintro r A5 ⟨B5,v5,S5,hA5,rfl,hK5,hN5,hR5⟩
          have c5 : (A5 ++ [Box.cells [.int .i64 k1,.str m1,.str n1,v5]]).getD A5.length .dead = .cells [.int .i64 k1,.str m1,.str n1,v5]:=by
            rw [Abs.getD_append_right (Nat.le_refl _)]; simp
          have hK5' : OwnK (A5 ++ [Box.cells [.int .i64 k1,.str m1,.str n1,v5]]) ks1 v5 S5:=hK5.frame fun i hi=>Abs.getD_append_left (hR5 i hi).2
          obtain ⟨Y5,hY5⟩ : ∃ Y5,A5 ++ [Box.cells [.int .i64 k1,.str m1,.str n1,v5]] = A2 ++ Y5:=⟨_,by rw [hA5,List.append_assoc,List.append_assoc]⟩
          rw [hY5] at c5 hK5'
          clear hA5 hK5 hR5 hN5
          simp only [zW,zX,zD,builtinA,isLeaf,const1,ustrA,simprocAttr,ti3,ti4,ti5,ti9,ti25,ti34,ti45,ti49,ca18,ca30,ca31,ca32,ca33,ca34,ca35,ca36,cf,Tryz.results10,hlen,hsg,enc_length]
          rw [hY5]
          clear hY5
          have hv5:=hK5'.viewT k1 m1 n1
          rw [← hρ1] at hv5
          refine callO_intro (impl_subst_b ho2 (by omega) hxo (.cons hv5 (.cons (hKv Y5) .nil))) ?_
          intro r A6 hA6r
          obtain ⟨B6,v6,S6,hA6,rfl,hK6,hN6,hR6⟩:=outS_of hρ2 hA6r
          clear hA6r
          have c6 : ∀ Z,(A6 ++ [Box.cells [.int .i64 k2,.str m2,.str n2,v6]] ++ Z).getD A6.length .dead = .cells [.int .i64 k2,.str m2,.str n2,v6]:=fun Z=>by
            rw [Abs.getD_append_left (by simp),Abs.getD_append_right (Nat.le_refl _)]; simp
          have hK6' : ∀ Z,OwnK (A6 ++ [Box.cells [.int .i64 k2,.str m2,.str n2,v6]] ++ Z) ks2 v6 S6:=fun Z=>hK6.frame fun i hi=>by
            rw [List.append_assoc]; exact Abs.getD_append_left (hR6 i hi).2
          obtain ⟨Y6,hY6⟩ : ∃ Y6,A6 ++ [Box.cells [.int .i64 k2,.str m2,.str n2,v6]] = A2 ++ Y6:=⟨_,by rw [hA6,List.append_assoc,List.append_assoc]⟩
          rw [hY6] at c6 hK6'
          clear hA6 hK6 hR6 hN6
          simp only [zW,zX,zD,builtinA,isLeaf,const1,ustrA,simprocAttr,ti3,ti4,ti5,ti9,ti25,ti34,ti45,ti49,ca18,ca30,ca31,ca32,ca33,ca34,ca35,ca36,cf,Tryz.results10,hlen,hsg,enc_length]
          refine ⟨pi,?_⟩
          rw [hY6]
          clear hY6
          refine callO_intro (hF3 _) ?_
          rintro r A7 ⟨B7,v7,S7,hA7,rfl,hK7,hN7,hR7⟩
          have c7 : (A7 ++ [Box.cells [.int .i64 k3,.str m3,.str n3,v7]]).getD A7.length .dead = .cells [.int .i64 k3,.str m3,.str n3,v7]:=by
            rw [Abs.getD_append_right (Nat.le_refl _)]; simp
          have hK7' : OwnK (A7 ++ [Box.cells [.int .i64 k3,.str m3,.str n3,v7]]) ks3 v7 S7:=hK7.frame fun i hi=>Abs.getD_append_left (hR7 i hi).2
          obtain ⟨Y7,hY7⟩ : ∃ Y7,A7 ++ [Box.cells [.int .i64 k3,.str m3,.str n3,v7]] = A2 ++ (Y6 ++ Y7):=⟨B7 ++ [Box.cells [.int .i64 k3,.str m3,.str n3,v7]],by rw [hA7]; simp only [List.append_assoc]⟩
          rw [hY7] at c7 hK7'
          clear hA7 hK7 hR7 hN7
          simp only [List.append_assoc] at c6 hK6'
          simp only [zW,zX,zD,builtinA,isLeaf,const1,ustrA,simprocAttr,ti3,ti4,ti5,ti9,ti25,ti34,ti45,ti49,ca18,ca30,ca31,ca32,ca33,ca34,ca35,ca36,cf,Tryz.results10]
          rw [hY7]
          clear hY7
          cases o1 with
          | none =>
            simp only [zW,zX,zD,builtinA,isLeaf,const1,ustrA,simprocAttr,ti3,ti4,ti5,ti9,ti25,ti34,ti45,ti49,ca18,ca30,ca31,ca32,ca33,ca34,ca35,ca36,cf,Tryz.results10,hi1,LoopK_eq,Option.isSome_none]
            refine ⟨⟨i + 1,_,by omega,rfl,rfl⟩,?_⟩
            simp only [intOf]; omega
          | some v =>
            obtain ⟨w,rfl,hw⟩:=mb_val hM ho ho1 ho3 ho2
            rcases hw with rfl | rfl
            · simp only [zW,zX,zD,builtinA,isLeaf,const1,ustrA,simprocAttr,ti3,ti4,ti5,ti9,ti25,ti34,ti45,ti49,ca18,ca30,ca31,ca32,ca33,ca34,ca35,ca36,cf,Tryz.results10,hi1,LoopK_eq,Option.isSome_none,Option.isSome_some]
              refine ⟨⟨i + 1,_,by omega,rfl,rfl⟩,?_⟩
              simp only [intOf]; omega
            · have e23 : Ty.mk k2 m2 n2 ks2 = .mk k3 m3 n3 ks3:=by rw [← hρ2,← hρ3]
              have hsz3:=oTyS_sz ho3
              have htr : ∀ A,ACalls Tryz.prog 36 [.agg (enc (.mk k2 m2 n2 ks2)),.agg (enc (.mk k3 m3 n3 ks3))] A (fun r A'=>r = .bool true ∧ A' = A):=fun A=>by
                have h:=impl_TypeSame (.mk k2 m2 n2 ks2) (.mk k3 m3 n3 ks3) (by rw [e23,← hρ3]; omega) (by rw [← hρ3]; omega) A
                rwa [decide_eq_true e23] at h
              simp only [zW,zX,zD,builtinA,isLeaf,const1,ustrA,simprocAttr,ti3,ti4,ti5,ti9,ti25,ti34,ti45,ti49,ca18,ca30,ca31,ca32,ca33,ca34,ca35,ca36,cf,Tryz.results10,c6,c7,Option.isSome_some,enc_length,enc_take,enc_drop,frzL_enc,enc_closed,Option.map_some]
              refine callO_intro (borrowI (.cons ((hK6' Y7).viewT k2 m2 n2) (.cons (hK7'.viewT k3 m3 n3) .nil)) rfl htr) ?_
              rintro r A' ⟨rfl,rfl⟩
              simp only [zW,zX,zD,builtinA,isLeaf,const1,ustrA,simprocAttr,ti3,ti4,ti5,ti9,ti25,ti34,ti45,ti49,ca18,ca30,ca31,ca32,ca33,ca34,ca35,ca36,cf,Tryz.results10,hi1,LoopK_eq]
              refine ⟨⟨i + 1,_,by omega,rfl,rfl⟩,?_⟩
              simp only [intOf]; omega
        · simp only [zW,zX,zD,builtinA,isLeaf,const1,ustrA,simprocAttr,ti3,ti4,ti5,ti9,ti25,ti34,ti45,ti49,ca18,ca30,ca31,ca32,ca33,ca34,ca35,ca36,cf,Tryz.results10]
    · simp only [zW,zX,zD,builtinA,isLeaf,const1,ustrA,simprocAttr,ti3,ti4,ti5,ti9,ti25,ti34,ti45,ti49,ca18,ca30,ca31,ca32,ca33,ca34,ca35,ca36,cf,Tryz.results10,decide_eq_false hc,Option.isSome_some]
      refine callO_intro (borrow0 (.cons hK1.view (.cons (.leaf _ rfl) .nil)) rfl hmk) ?_
      rintro r A' ⟨rfl,rfl⟩
      simp only [zW,zX,zD,builtinA,isLeaf,const1,ustrA,simprocAttr,ti3,ti4,ti5,ti9,ti25,ti34,ti45,ti49,ca18,ca30,ca31,ca32,ca33,ca34,ca35,ca36,cf,Tryz.results10]
theorem mtBinds_rec : ∀ t ∈ Tryz.f10.params.toList,Tryz.prog.readableRec t = true ∧ t < Tryz.prog.types.size:=by
  rw [Tryz.params10]
  intro t ht
  simp at ht
  subst ht
  exact ⟨by kernel_rfl,of_decide_eq_true (by kernel_rfl)⟩
set_option maxRecDepth 100000 in
theorem mtBinds_lifted (os : Os) (started : os.Started) (H : Type) (enc' : TypeId × Value → H) :
    ReturnsInHanded {} Tryz.checked os 10 .any (fun w args=>(Rows.fnMatchBindsSpec.pre enc' Tryz.prog Tryz.f10 Rows.fnMatchBindsRow.domain false w args ∧ laidMetH Tryz.prog laidL w) ∧ sizedMet enc' Tryz.prog Tryz.f10 (OpenSpec.ofChange Rows.fnMatchBindsSpec) false w args) (Rows.fnMatchBindsSpec.post enc' Tryz.prog Tryz.f10 false true false false):=by
  refine returnsInHanded_of_change_and (C:=Tryz.checked) (X:=fun w _=>laidMetH Tryz.prog laidL w) (fun _ _ _ hh h=>h.of_heap hh) ownk started (by kernel_rfl) Tryz.func10
    (ChangeSpec.witness_at (enc:=enc') (C:=Tryz.checked) (os:=os) (X:=fun w _=>laidMetH Tryz.prog laidL w) false (laidWorld os) #[.slice none 0 0] 8 rfl (by kernel_rfl) (by kernel_rfl) (by kernel_rfl) (by kernel_rfl) (by kernel_rfl) (laidWorld_met os _)) ?_
  intro W base args ds gs before hval0 hW hcnd _ hL _
  have hval : ∀ (j : Nat) t v,Tryz.f10.params[j]? = some t → args[j]? = some v → Value.okWide Tryz.prog W .any base t v:=hval0
  have hW':=hW
  obtain ⟨p,q,hA0,hV,rfl,hfz,hnd⟩:=hW
  have hA : DataW.TrodAll enc' Tryz.prog W 0 (fun _=>true) true Tryz.f10.params.toList args.toList ds p:=hA0
  rw [Tryz.params10] at hA hval
  have hlt:=hA.lt
  obtain ⟨v0,d0,rfl,rfl,h0⟩:=trodAll_one hA
  obtain ⟨rfl,rfl⟩:=trodVars_none hV
  obtain ⟨x0,r0⟩:=rv_bytes Tryz.underlying34 Tryz.underlying5 (by kernel_rfl) (hval 0 34 v0 rfl rfl) h0 (fun x hx=>hlt x (by simp [hx]))
  refine (law_calls (mtBinds_true x0) (.cons r0 .nil) (gv_of_laid hL)).mono fun e W' ⟨he,hb⟩=>?_
  subst he
  exact ⟨_,rfl,law_post laid mtBinds_rec rfl Tryz.underlying4 (by kernel_rfl) ⟨rfl,rfl⟩ rfl hW' hb⟩
theorem mtBinds_facts : joinedFacts Tryz.pinned.checked.prog 10 Tryz.f10 Rows.fnMatchBindsSpec Rows.fnMatchBindsRow = true:=by kernel_rfl
theorem mtBinds_row : Rows.FnMatchBindsSaid :=
  OpenClaim.holds_of_wide 10 Tryz.f10 rfl rfl rfl rfl rfl rfl rfl ⟨rfl,rfl,rfl,rfl,rfl⟩ rfl rfl rfl rfl rfl (by kernel_rfl) Tryz.func10 mtBinds_facts
    (of_decide_eq_true (by kernel_rfl)) (by unfold Func.isWrapper; first | (rw [if_pos (by decide +kernel)]; kernel_rfl) | (rw [if_neg (by decide +kernel)]; exact ⟨rfl,rfl⟩))
    (fun os started H enc' _=>mtBinds_lifted os started H enc')
theorem mtBinds_holds : Rows.FnMatchBindsCardSaid :=
  Claim7.holds_tied_plain_at .later [] [.handle] true (true, "3b9c0b29125ae3c1057be6c9ea7f3211bb3d44f2cff06c881e93488895868c60") true
    mtBinds_row (fun _ h=>by cases h) (by kernel_rfl) (fun _ h=>by cases h) fnMatchBinds_row_tie rfl ⟨rfl,rfl⟩ (by kernel_rfl) rfl
    (fun f fn hf hfn=>by
      obtain rfl : f = 10:=Option.some.inj ((show Tryz.prog.funcNamed Rows.fnMatchBindsRow.func = some 10 by kernel_rfl).symm.trans hf) |>.symm
      obtain rfl : fn = Tryz.f10:=(Option.some.inj (Tryz.func10.symm.trans hfn)).symm
      refine ⟨by kernel_rfl,fun j t ht=>?_⟩
      rw [Tryz.params10] at ht
      rcases j with _ | j
      · obtain rfl : 34 = t:=by simpa using ht
        exact (show Tryz.prog.wantsStandIn 34 = false by kernel_rfl)
      · simp at ht)
    (by kernel_rfl)
end Go.Proofs.YtkajklfohjcofaaGreatDoor
