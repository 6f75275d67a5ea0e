/- SigStr, JoinM, SpJoin. -/
import Derived.Test.YtngheinmebopeaaGreatDoorJ10
import Derived.Test.YtngheinmebopeaaGreatDoorAbsW3
/- Strengthened signatures, by the program and by the model. -/
set_option linter.unusedVariables false
set_option linter.unusedSimpArgs false
namespace Go.Proofs.YtngheinmebopeaaGreatDoor
open Go.Abs
set_option maxRecDepth 100000 in
theorem impl_readSigK (s : List SigI) (hs : s.length ≤ 1048576) (ho : ∀ x ∈ s,x.Ok ∧ sz x.typ ≤ 1048576) (A : List Box) : ACalls Tryz.prog 23 [.slice (sEs s)] A (fun r A'=>∃ B,A' = A ++ B ∧
    ((∃ ys j,s.length ≤ 8 ∧ ReadsTo s ys ∧ r = .tuple [.own (A.length + j),.bool (ordB ys)] ∧ j < B.length ∧ B.getD j .dead = .row 1 (vRows ys) 0) ∨ ((8 < s.length ∨ ∃ x ∈ s,itemOk x = false) ∧ r = .tuple [.nils,.bool false]))):=by
  have hre:=impl_readEach s hs ho A
  refine acalls_enterK (cf:=cf 17 [0,2,3,4,5]) foll Tryz.func23 Tryz.ntmps23 (by simp [cf]) ?_
  simp only [Tryz.f23,EnterK_some,zW,zX,zD,builtinA,isLeaf,const1,ustrA,simprocAttr,ca50,ca52,cf,Tryz.results23]
  refine callO_intro hre ?_
  rintro r A' ⟨B,rfl,⟨ys,j,h8,hrt,rfl,hj,hg⟩ | ⟨hbad,rfl⟩⟩
  · have hg2 : (A ++ B).getD (A.length + j) .dead = .row 1 (vRows ys) 0:=by rw [Abs.getD_append_right (by omega),Nat.add_sub_cancel_left]; exact hg
    simp only [zW,zX,zD,builtinA,isLeaf,const1,ustrA,simprocAttr,ca50,ca52,cf,Tryz.results23]
    refine callO_intro (borrowI (.cons (.row (A.length + j) 1 0 (vRows ys) (vRows ys) hg2 rfl (vRows_leaf ys) (vRows_view ys _)) .nil) rfl (fun A=>impl_inOrder ys (by have:=hrt.1; omega) A)) ?_
    rintro r A' ⟨rfl,rfl⟩
    simp only [zW,zX,zD,builtinA,isLeaf,const1,ustrA,simprocAttr,ca50,ca52,cf,Tryz.results23]
    exact ⟨B,rfl,.inl ⟨ys,j,h8,hrt,rfl,hj,hg⟩⟩
  · simp only [zW,zX,zD,builtinA,isLeaf,const1,ustrA,simprocAttr,ca50,ca52,cf,Tryz.results23]
    exact ⟨B,rfl,.inr hbad⟩
set_option maxRecDepth 100000 in
theorem impl_cloneSig (ys : List VI) (i : Nat) (A : List Box) (hb : A.getD i .dead = .row 1 (vRows ys) 0) (hi : i < A.length) (hl : ys.length ≤ 1000) : ACalls Tryz.prog 53 [.own i] A (fun r A'=>∃ B j,A' = A ++ B ∧ r = .own (A.length + j) ∧ j < B.length ∧ B.getD j .dead = .row 1 (vRows ys) 0):=by
  have hb2 : (A ++ [Box.row 1 [] 0]).getD i .dead = .row 1 (vRows ys) 0:=by rw [Abs.getD_append_left hi]; exact hb
  refine acalls_enterK (cf:=cf 8 [0,2,4]) foll Tryz.func53 Tryz.ntmps53 (by simp [cf]) ?_
  simp only [Tryz.f53,EnterK_some,zW,zX,zD,builtinA,isLeaf,const1,ustrA,simprocAttr,ti38,ti104,cf,Tryz.results53]
  simp only [zW,zX,zD,builtinA,isLeaf,const1,ustrA,simprocAttr,ti38,ti104,cf,Tryz.results53,hb2,vRows_length]
  exact ⟨⟨fun r hr=>(vRows_leaf ys r hr).1,by omega⟩,[.dead,.row 1 (vRows ys) 0],1,rfl,rfl,by simp,rfl⟩
theorem sg_none (A B : List Box) : SgOut A [] false (.tuple [.nils,.bool false]) (A ++ B):=⟨_,[],rfl,.inl ⟨rfl,rfl,rfl⟩,by simp,by simp,by simp,fun i hi=>Abs.getD_append_left hi⟩
theorem ready {s : List SigI} {ys : List VI} (h : ReadsTo s ys) {i : Nat} (hi : i < s.length) : s.getD i si0 = siOf (ys.getD i vi0):=itemOf_si (h.2 i hi).2
end Go.Proofs.YtngheinmebopeaaGreatDoor
/- What two signatures offer together: by the program and by the model. -/
set_option linter.unusedVariables false
set_option linter.unusedSimpArgs false
namespace Go.Proofs.YtngheinmebopeaaGreatDoor
open Go.Abs
def jnK (ys zs : List VI) : List VI:=ys ++ zs.filter fun z=>!decide (viK z ∈ ys.map viK)
theorem jnK_snoc (ys : List VI) {zs : List VI} {p : Nat} (hp : p < zs.length) : jnK ys (zs.take (p + 1)) = if viK (zs.getD p vi0) ∈ ys.map viK then jnK ys (zs.take p) else jnK ys (zs.take p) ++ [zs.getD p vi0]:=by
  have e : zs.take (p + 1) = zs.take p ++ [zs.getD p vi0]:=by rw [List.take_add_one]; simp [List.getD,hp]
  rw [jnK,e,List.filter_append]
  split
  · rename_i h; rw [List.filter_cons_of_neg (by rw [decide_eq_true h]; simp)]; simp [jnK]
  · rename_i h; rw [List.filter_cons_of_pos (by rw [decide_eq_false h]; rfl)]; simp [jnK]
theorem jnK_len (ys zs : List VI) : (jnK ys zs).length ≤ ys.length + zs.length:=by
  rw [jnK,List.length_append]
  have:=List.length_filter_le (fun z=>!decide (viK z ∈ ys.map viK)) zs
  omega
theorem pos_view (ys : List VI) (hl : ys.length ≤ 1000) (q : Ky) {A : List Box} {i : Nat} (hb : A.getD i .dead = .row 1 (vRows ys) 0) :
    ACalls Tryz.prog 54 [.own i,.agg (kE q)] A (fun r A'=>(∃ n : Int,r = .int .i64 n ∧ decide (n < 0) = !decide (q ∈ ys.map viK)) ∧ A' = A):=by
  refine ACalls.borrow (.cons (.row i 1 0 (vRows ys) (vRows ys) hb rfl (vRows_leaf ys) (vRows_view ys _)) (.cons (.agg _ _ rfl fun k hk=>.leaf _ (by have h2 : k < 2:=hk; match k,h2 with | 0,_=>rfl | 1,_=>rfl)) .nil)) ((impl_position ys hl q _).mono ?_)
  rintro r A' ⟨h,rfl⟩
  rcases h with ⟨j,hj,hk,rfl⟩ | ⟨hn,rfl⟩
  · refine ⟨[],by simp,rfl,by simp,⟨_,rfl,?_⟩,by simp⟩
    have hm : q ∈ ys.map viK:=List.mem_map.2 ⟨ys.getD j vi0,by simp [List.getD,hj],hk⟩
    rw [decide_eq_true hm]
    exact decide_eq_false (by omega)
  · refine ⟨[],by simp,rfl,by simp,⟨_,rfl,?_⟩,by simp⟩
    have hm : q ∉ ys.map viK:=fun h=>by
      obtain ⟨y,hy,hk⟩:=List.mem_map.1 h
      obtain ⟨j,hj,rfl⟩:=List.mem_iff_getElem.1 hy
      exact hn j hj (by simpa [List.getD,hj] using hk)
    rw [decide_eq_false hm]
    rfl
set_option maxRecDepth 100000 in
set_option maxHeartbeats 4000000 in
theorem impl_merge (ys zs : List VI) (i k : Nat) (A : List Box) (hb : A.getD i .dead = .row 1 (vRows ys) 0) (hi : i < A.length) (hl : ys.length ≤ 100) (hb2 : A.getD k .dead = .row 1 (vRows zs) 0) (hk : k < A.length) (hl2 : zs.length ≤ 100) :
    ACalls Tryz.prog 24 [.own i,.own k] A (fun r A'=>∃ B j,A' = A ++ B ∧ r = .own (A.length + j) ∧ j < B.length ∧ B.getD j .dead = .row 1 (vRows (jnK ys zs)) 0):=by
  have hbi : ∀ B,(A ++ B).getD i .dead = .row 1 (vRows ys) 0:=fun B=>by rw [Abs.getD_append_left hi]; exact hb
  have hbk : ∀ B,(A ++ B).getD k .dead = .row 1 (vRows zs) 0:=fun B=>by rw [Abs.getD_append_left hk]; exact hb2
  refine acalls_enterK (cf:=cf 27 [0,1,4,5,7,10,11,12,13,20]) foll Tryz.func24 Tryz.ntmps24 (by simp [cf]) ?_
  simp only [Tryz.f24,EnterK_some,zW,zX,zD,builtinA,isLeaf,const1,ustrA,simprocAttr,ti3,ti38,ti104,ca53,ca54,cf,Tryz.results24]
  refine callO_intro (impl_cloneSig ys i A hb hi (by omega)) ?_
  rintro r A1 ⟨B,j,rfl,rfl,hj,hg⟩
  simp only [zW,zX,zD,builtinA,isLeaf,const1,ustrA,simprocAttr,ti3,ti38,ti104,ca53,ca54,cf,Tryz.results24,hbk,vRows_length]
  refine aloop_intro [0,5,10,11,12] (fun e A'=>∃ p j B,p ≤ zs.length ∧ e = [(0,.own i),(5,.own (A.length + j)),(10,.own k),(11,.int .i64 zs.length),(12,.int .i64 p)] ∧ A' = A ++ B ∧ j < B.length ∧ B.getD j .dead = .row 1 (vRows (jnK ys (zs.take p))) 0) (fun e _=>zs.length - (intOf (Abs.look 12 e)).toNat) ?_ ?_
  · simp only [zW,zX,zD,builtinA,isLeaf,const1,ustrA,simprocAttr,ti3,ti38,ti104,ca53,ca54,cf,Tryz.results24]
    exact ⟨0,j,B,by omega,rfl,rfl,hj,by rw [hg]; simp [jnK]⟩
  · clear hg hj
    rintro e A' ⟨p,j,B,hp,rfl,rfl,hj,hg⟩
    by_cases hp2 : p < zs.length
    · have d2 : decide ((p : Int) < (zs.length : Int)) = true:=by simp; omega
      have he:=vRows_getD hp2
      have hi1 : IntKind.i64.wrap ((p : Int) + 1) = ((p + 1 : Nat) : Int):=by rw [wrap64 (by omega) (by omega)]; rfl
      have pp : (0 : Int) ≤ (p : Int) ∧ (p : Int) < (zs.length : Int):=⟨by omega,by omega⟩
      have hsn:=jnK_snoc ys hp2
      have hjl:=jnK_len ys (zs.take p)
      have hjl2 : (zs.take p).length ≤ 100:=by simp; omega
      generalize zs.getD p vi0 = y at *
      generalize jnK ys (zs.take p) = us at *
      rw [vRow] at he
      have hpv:=pos_view ys (by omega) (viK y) (hbi B)
      simp only [kE] at hpv
      simp only [zW,zX,zD,builtinA,isLeaf,const1,ustrA,simprocAttr,ti3,ti38,ti104,ca53,ca54,cf,Tryz.results24,hbk,vRows_length,d2,he]
      refine ⟨pp,?_⟩
      refine wpO_invoke _ _ _ _ _ _ _ _ _ _ _ _ _ _ _ _ ?_
      simp only [zW,zX,zD,builtinA,isLeaf,const1,ustrA,simprocAttr,ti3,ti38,ti104,ca53,ca54,cf,Tryz.results24]
      refine methI_invK (metI3 (by kernel_rfl) (by kernel_rfl) (by kernel_rfl) (by kernel_rfl) (by kernel_rfl) (by kernel_rfl)) (keyI y _) rfl (fun _=>rfl) ?_
      rintro r A' ⟨rfl,hA⟩
      have hA:=hA.symm
      subst hA
      simp only [kE]
      simp only [zW,zX,zD,builtinA,isLeaf,const1,ustrA,simprocAttr,ti3,ti38,ti104,ca53,ca54,cf,Tryz.results24]
      refine callO_intro hpv ?_
      rintro r A' ⟨⟨n,rfl,hn⟩,hA⟩
      have hA:=hA.symm
      subst hA
      by_cases hm : viK y ∈ ys.map viK
      · rw [if_pos hm] at hsn
        rw [decide_eq_true hm] at hn
        simp only [zW,zX,zD,builtinA,isLeaf,const1,ustrA,simprocAttr,ti3,ti38,ti104,ca53,ca54,cf,Tryz.results24,hn,Bool.not_true,hi1,LoopK_eq]
        refine ⟨⟨p + 1,j,B,by omega,rfl,rfl,hj,by rw [hg,hsn]⟩,?_⟩
        simp only [intOf]; omega
      · rw [if_neg hm] at hsn
        rw [decide_eq_false hm] at hn
        have hrs : vRows us ++ [[.iface (viT y) (viX y)]] = vRows (us ++ [y]):=by simp [vRows,vRow]
        have hgX : ∀ Y,(B ++ Y).getD j .dead = .row 1 (vRows us) 0:=fun Y=>by rw [Abs.getD_append_left hj]; exact hg
        have hsX : ∀ Y : List Box,(B ++ Y).set j .dead = B.set j .dead ++ Y:=fun Y=>by rw [List.set_append_left _ _ hj]
        have hjX : ∀ n,j < B.length + n:=fun n=>by omega
        simp only [zW,zX,zD,builtinA,isLeaf,const1,ustrA,simprocAttr,ti3,ti38,ti104,ca53,ca54,cf,Tryz.results24,hn,Bool.not_false,hg,hj,hgX,hsX,hjX,hrs,hi1,LoopK_eq]
        refine ⟨fun v hv=>by rw [List.mem_singleton.1 hv],⟨fun r hr=>by rw [List.mem_singleton.1 hr]; rfl,by rw [vRows_length]; omega⟩,⟨p + 1,B.length + 1,_,by omega,rfl,rfl,by simp,?_⟩,?_⟩
        · rw [Abs.getD_append_right (by simp),hsn]; simp
        · simp only [intOf]; omega
    · have d2 : decide ((p : Int) < (zs.length : Int)) = false:=by simp; omega
      have e : p = zs.length:=by omega
      subst e
      rw [List.take_length] at hg
      simp only [zW,zX,zD,builtinA,isLeaf,const1,ustrA,simprocAttr,ti3,ti38,ti104,ca53,ca54,cf,Tryz.results24,d2]
      exact ⟨B,j,rfl,rfl,hj,hg⟩
def JnIs (a b : List SigI) (o : Option (List SigI)) : Prop :=
  (∃ ys zs c c' p p',a.length ≤ 8 ∧ b.length ≤ 8 ∧ ReadsTo a ys ∧ ReadsTo b zs ∧ ordB ys = true ∧ ordB zs = true ∧ MtIs ((jnK ys zs).map siOf) a c p ∧ MtIs ((jnK ys zs).map siOf) b c' p' ∧ o = if c = 0 ∧ c' = 0 then some ((jnK ys zs).map siOf) else none) ∨
  (sigB a = false ∨ sigB b = false) ∧ o = none
theorem jnIs_ex (a b : List SigI) : ∃ o,JnIs a b o:=by
  cases ha : sigB a with
  | false=>exact ⟨none,.inr ⟨.inl ha,rfl⟩⟩
  | true =>
    cases hb : sigB b with
    | false=>exact ⟨none,.inr ⟨.inr hb,rfl⟩⟩
    | true =>
      obtain ⟨ys,h8,hr,ho⟩:=sigB_yes ha
      obtain ⟨zs,h8',hr',ho'⟩:=sigB_yes hb
      obtain ⟨c,p,h1⟩:=mtIs_ex ((jnK ys zs).map siOf) a
      obtain ⟨c',p',h2⟩:=mtIs_ex ((jnK ys zs).map siOf) b
      exact ⟨_,.inl ⟨ys,zs,c,c',p,p',h8,h8',hr,hr',ho,ho',h1,h2,rfl⟩⟩
theorem jnIs_one {a b : List SigI} {o o' : Option (List SigI)} (h : JnIs a b o) (h' : JnIs a b o') : o = o':=by
  have hv : ∀ {s : List SigI} {ys : List VI},s.length ≤ 8 → ReadsTo s ys → ordB ys = true → sigB s = true:=fun h8 hr ho=>by rw [sigB_reads h8 hr]; exact ho
  rcases h with ⟨ys,zs,c,c',p,p',a1,a2,a3,a4,a5,a6,a7,a8,rfl⟩ | ⟨h,rfl⟩
  · rcases h' with ⟨us,ws,d,d',q,q',b1,b2,b3,b4,b5,b6,b7,b8,rfl⟩ | ⟨h,rfl⟩
    · cases readsTo_one a3 b3
      cases readsTo_one a4 b4
      rw [(mtIs_one a7 b7).1,(mtIs_one a8 b8).1]
    · rcases h with h | h
      · rw [hv a1 a3 a5] at h; cases h
      · rw [hv a2 a4 a6] at h; cases h
  · rcases h' with ⟨us,ws,d,d',q,q',b1,b2,b3,b4,b5,b6,b7,b8,rfl⟩ | ⟨h',rfl⟩
    · rcases h with h | h
      · rw [hv b1 b3 b5] at h; cases h
      · rw [hv b2 b4 b6] at h; cases h
    · rfl
theorem jn_ok {a b : List SigI} (ha : ∀ x ∈ a,x.Ok) (hb : ∀ x ∈ b,x.Ok) {ys zs : List VI} (h8 : a.length ≤ 8) (h8' : b.length ≤ 8) (hr : ReadsTo a ys) (hr' : ReadsTo b zs) : ((jnK ys zs).map siOf).length ≤ 16 ∧ ∀ x ∈ (jnK ys zs).map siOf,x.Ok ∧ sz x.typ ≤ 1048576:=by
  have key : ∀ {s : List SigI} {us : List VI},(∀ x ∈ s,x.Ok) → ReadsTo s us → ∀ y ∈ us,(siOf y).Ok ∧ sz (siOf y).typ ≤ 1048576:=fun {s us} hs hr y hy=>by
    obtain ⟨i,hi,rfl⟩:=List.mem_iff_getElem.1 hy
    have h1:=hr.2 i (by have:=hr.1; omega)
    have e : us.getD i vi0 = us[i]:=by simp [List.getD,hi]
    rw [e] at h1
    refine siOf_ok (mean_ok h1.1 h1.2) ?_
    rw [← siOf_name,← itemOf_si h1.2]
    exact (hs _ (si_mem (by have:=hr.1; omega))).1
  refine ⟨by rw [List.length_map]; have:=jnK_len ys zs; have:=hr.1; have:=hr'.1; omega,fun x hx=>?_⟩
  obtain ⟨y,hy,rfl⟩:=List.mem_map.1 hx
  rw [jnK] at hy
  rcases List.mem_append.1 hy with h | h
  · exact key ha hr y h
  · exact key hb hr' y (List.mem_filter.1 h).1
set_option maxRecDepth 100000 in
set_option maxHeartbeats 4000000 in
theorem impl_JoinSigs (a b : List SigI) (ha : a.length ≤ 1048576) (hoa : ∀ x ∈ a,x.Ok ∧ sz x.typ ≤ 1048576) (hb : b.length ≤ 1048576) (hob : ∀ x ∈ b,x.Ok ∧ sz x.typ ≤ 1048576) (A : List Box) :
    ACalls Tryz.prog 10 [.slice (sEs a),.slice (sEs b)] A (fun r A'=>∃ o,JnIs a b o ∧ SgOut A (o.getD []) o.isSome r A'):=by
  refine acalls_enterK (cf:=cf 42 [0,1,4,5,6,7,8,9,10,26,40]) foll Tryz.func10 Tryz.ntmps10 (by simp [cf]) ?_
  simp only [Tryz.f10,EnterK_some,zW,zX,zD,builtinA,isLeaf,const1,ustrA,simprocAttr,ti3,ca7,ca23,ca24,ca25,cf,Tryz.results10]
  refine callO_intro (impl_readSigK a ha hoa _) ?_
  rintro r A1 ⟨B,rfl,h1⟩
  obtain ⟨q1,v1,e1,hq1⟩ : ∃ (q : Bool) (v : AV),r = .tuple [v,.bool q] ∧ (q = true → ∃ ys j,a.length ≤ 8 ∧ ReadsTo a ys ∧ ordB ys = true ∧ v = .own (A.length + j) ∧ j < B.length ∧ B.getD j .dead = .row 1 (vRows ys) 0) ∧ (q = false → sigB a = false):=by
    rcases h1 with ⟨ys,j,h8,hr,rfl,hj,hg⟩ | ⟨hbad,rfl⟩
    · exact ⟨_,_,rfl,fun h=>⟨ys,j,h8,hr,h,rfl,hj,hg⟩,fun h=>by rw [sigB_reads h8 hr]; exact h⟩
    · exact ⟨_,_,rfl,(fun h=>by cases h),fun _=>sigB_bad hbad⟩
  subst e1
  clear h1
  simp only [zW,zX,zD,builtinA,isLeaf,const1,ustrA,simprocAttr,ti3,ca7,ca23,ca24,ca25,cf,Tryz.results10]
  refine callO_intro (impl_readSigK b hb hob _) ?_
  rintro r A1 ⟨C,rfl,h1⟩
  obtain ⟨q2,v2,e2,hq2⟩ : ∃ (q : Bool) (v : AV),r = .tuple [v,.bool q] ∧ (q = true → ∃ ys j,b.length ≤ 8 ∧ ReadsTo b ys ∧ ordB ys = true ∧ v = .own ((A ++ B).length + j) ∧ j < C.length ∧ C.getD j .dead = .row 1 (vRows ys) 0) ∧ (q = false → sigB b = false):=by
    rcases h1 with ⟨ys,j,h8,hr,rfl,hj,hg⟩ | ⟨hbad,rfl⟩
    · exact ⟨_,_,rfl,fun h=>⟨ys,j,h8,hr,h,rfl,hj,hg⟩,fun h=>by rw [sigB_reads h8 hr]; exact h⟩
    · exact ⟨_,_,rfl,(fun h=>by cases h),fun _=>sigB_bad hbad⟩
  subst e2
  clear h1
  cases q1 with
  | false =>
    simp only [zW,zX,zD,builtinA,isLeaf,const1,ustrA,simprocAttr,ti3,ca7,ca23,ca24,ca25,cf,Tryz.results10]
    exact ⟨none,.inr ⟨.inl (hq1.2 rfl),rfl⟩,sg_none A (B ++ C)⟩
  | true =>
    cases q2 with
    | false =>
      simp only [zW,zX,zD,builtinA,isLeaf,const1,ustrA,simprocAttr,ti3,ca7,ca23,ca24,ca25,cf,Tryz.results10]
      exact ⟨none,.inr ⟨.inr (hq2.2 rfl),rfl⟩,sg_none A (B ++ C)⟩
    | true =>
      obtain ⟨ys,j,h8,hr,hord,rfl,hj,hg⟩:=hq1.1 rfl
      obtain ⟨zs,k,h8',hr',hord',rfl,hk,hgk⟩:=hq2.1 rfl
      have g1 : (A ++ (B ++ C)).getD (A.length + j) .dead = .row 1 (vRows ys) 0:=by
        rw [Abs.getD_append_right (by omega),show A.length + j - A.length = j by omega,Abs.getD_append_left hj]; exact hg
      have g2 : (A ++ (B ++ C)).getD (A.length + B.length + k) .dead = .row 1 (vRows zs) 0:=by
        rw [Abs.getD_append_right (by omega),show A.length + B.length + k - A.length = B.length + k by omega,Abs.getD_append_right (by omega),show B.length + k - B.length = k by omega]; exact hgk
      have hys:=hr.1
      have hzs:=hr'.1
      obtain ⟨hxl,hxo⟩:=jn_ok (fun x hx=>(hoa x hx).1) (fun x hx=>(hob x hx).1) h8 h8' hr hr'
      have hjl:=jnK_len ys zs
      obtain ⟨c,p,hM⟩:=mtIs_ex ((jnK ys zs).map siOf) a
      obtain ⟨c',p',hM'⟩:=mtIs_ex ((jnK ys zs).map siOf) b
      have hm1:=fun A=>impl_MatchSigF hM (by omega) hxo ha hoa A
      have hm2:=fun A=>impl_MatchSigF hM' (by omega) hxo hb hob A
      have hJ : JnIs a b (if c = 0 ∧ c' = 0 then some ((jnK ys zs).map siOf) else none):=.inl ⟨ys,zs,c,c',p,p',h8,h8',hr,hr',hord,hord',hM,hM',rfl⟩
      simp only [zW,zX,zD,builtinA,isLeaf,const1,ustrA,simprocAttr,ti3,ca7,ca23,ca24,ca25,cf,Tryz.results10]
      refine callO_intro (impl_merge ys zs (A.length + j) (A.length + B.length + k) (A ++ (B ++ C)) g1 (by simp; omega) (by omega) g2 (by simp; omega) (by omega)) ?_
      rintro r A' ⟨D,m,rfl,rfl,hm,hgm⟩
      simp only [zW,zX,zD,builtinA,isLeaf,const1,ustrA,simprocAttr,ti3,ca7,ca23,ca24,ca25,cf,Tryz.results10]
      have hfz : frzs [.own ((A ++ (B ++ C)).length + m)] ((A ++ (B ++ C)) ++ D) = some ([.slice (vRows (jnK ys zs))],(A ++ (B ++ C)) ++ D.set m (.row 1 (vRows (jnK ys zs)) (vRows (jnK ys zs)).length)):=by
        have h1 : ((A ++ (B ++ C)) ++ D).getD ((A ++ (B ++ C)).length + m) .dead = .row 1 (vRows (jnK ys zs)) 0:=by
          rw [Abs.getD_append_right (by omega),Nat.add_sub_cancel_left]; exact hgm
        have h2 : ∀ X : Box,((A ++ (B ++ C)) ++ D).set ((A ++ (B ++ C)).length + m) X = (A ++ (B ++ C)) ++ D.set m X:=fun X=>by rw [List.set_append_right _ _ (by omega),Nat.add_sub_cancel_left]
        simp only [frzs,frzC,frz1,h1,h2]
      simp only [List.length_append,List.append_assoc] at hfz
      refine callK_intro hfz (impl_plainSig (jnK ys zs) (by omega) _) ?_ rfl
      rintro r A' ⟨i,rfl,hle,hf,rows,S,hgi,hO,hN,hge⟩
      simp only [List.length_append,List.length_set] at hle hge
      have hfA : ∀ x,x < A.length → A'.getD x .dead = A.getD x .dead:=fun x hx=>by rw [hf x (by simp; omega),Abs.getD_append_left hx]
      clear hf hfz
      simp only [zW,zX,zD,builtinA,isLeaf,const1,ustrA,simprocAttr,ti3,ca7,ca23,ca24,ca25,cf,Tryz.results10]
      refine callO_intro (borrow0 (.cons (OwnG.viewG hgi hO) (.cons (.leaf _ rfl) .nil)) rfl hm1) ?_
      rintro r A2 ⟨rfl,hA⟩
      have hA:=hA.symm
      subst hA
      by_cases hc : c = 0
      · simp only [zW,zX,zD,builtinA,isLeaf,const1,ustrA,simprocAttr,ti3,ca7,ca23,ca24,ca25,cf,Tryz.results10,decide_eq_true hc,Bool.not_true]
        refine callO_intro (borrow0 (.cons (OwnG.viewG hgi hO) (.cons (.leaf _ rfl) .nil)) rfl hm2) ?_
        rintro r A2 ⟨rfl,hA⟩
        have hA:=hA.symm
        subst hA
        by_cases hc' : c' = 0
        · rw [if_pos ⟨hc,hc'⟩] at hJ
          simp only [zW,zX,zD,builtinA,isLeaf,const1,ustrA,simprocAttr,ti3,ca7,ca23,ca24,ca25,cf,Tryz.results10,decide_eq_true hc',Bool.not_true]
          exact ⟨_,hJ,_,i :: S,rfl,.inr ⟨i,rows,S,rfl,rfl,hgi,hO⟩,hN,fun x hx=>by have:=hge x hx; omega,by omega,hfA⟩
        · rw [if_neg (fun h=>hc' h.2)] at hJ
          simp only [zW,zX,zD,builtinA,isLeaf,const1,ustrA,simprocAttr,ti3,ca7,ca23,ca24,ca25,cf,Tryz.results10,decide_eq_false hc',Bool.not_false]
          exact ⟨_,hJ,_,[],rfl,.inl ⟨rfl,rfl,rfl⟩,by simp,by simp,by omega,hfA⟩
      · rw [if_neg (fun h=>hc h.1)] at hJ
        simp only [zW,zX,zD,builtinA,isLeaf,const1,ustrA,simprocAttr,ti3,ca7,ca23,ca24,ca25,cf,Tryz.results10,decide_eq_false hc,Bool.not_false]
        exact ⟨_,hJ,_,[],rfl,.inl ⟨rfl,rfl,rfl⟩,by simp,by simp,by omega,hfA⟩
end Go.Proofs.YtngheinmebopeaaGreatDoor
/- The model's JoinSigs: what two signatures offer together. -/
set_option linter.unusedVariables false
set_option linter.unusedSimpArgs false
namespace Go.Proofs.YtngheinmebopeaaGreatDoor
open Go.Abs
theorem viK_si (y q : VI) : decide (viK y = viK q) = (decide ((siOf y).name = (siOf q).name) && decide (isTB (siOf y) = isTB (siOf q))):=by
  rw [Bool.eq_iff_iff,Bool.and_eq_true,decide_eq_true_iff,decide_eq_true_iff,decide_eq_true_iff]
  cases y <;> cases q <;> simp [viK,siOf,isTB]
theorem rd_map {s : List SigI} {ys : List VI} (h : ReadsTo s ys) : s = ys.map siOf:=by
  apply List.ext_getElem (by simp [h.1])
  intro i h1 h2
  have e:=itemOf_si (h.2 i h1).2
  have h3 : i < ys.length:=by have:=h.1; omega
  simpa [List.getD,h1,h3] using e
theorem fz1 {A B : List Box} {n j sz s : Nat} {r : List (List AV)} (hn : A.length = n) (hj : j < B.length) (h : B.getD j .dead = .row sz r s) : frzs [.own (n + j)] (A ++ B) = some ([.slice r],A ++ B.set j (.row sz r r.length)):=by
  subst hn
  have h1 : (A ++ B).getD (A.length + j) .dead = .row sz r s:=by rw [Abs.getD_append_right (by omega),Nat.add_sub_cancel_left]; exact h
  have h2 : ∀ X : Box,(A ++ B).set (A.length + j) X = A ++ B.set j X:=fun X=>by rw [List.set_append_right _ _ (by omega),Nat.add_sub_cancel_left]
  simp only [frzs,frzC,frz1,h1,h2]
theorem fz2 {A B : List Box} {n j sz s : Nat} {r X : List (List AV)} (hn : A.length = n) (hj : j < B.length) (h : B.getD j .dead = .row sz r s) : frzs [.own (n + j),.slice X] (A ++ B) = some ([.slice r,.slice X],A ++ B.set j (.row sz r r.length)):=by
  subst hn
  have h1 : (A ++ B).getD (A.length + j) .dead = .row sz r s:=by rw [Abs.getD_append_right (by omega),Nat.add_sub_cancel_left]; exact h
  have h2 : ∀ X : Box,(A ++ B).set (A.length + j) X = A ++ B.set j X:=fun X=>by rw [List.set_append_right _ _ (by omega),Nat.add_sub_cancel_left]
  simp only [frzs,frzC,frz1,h1,h2]
set_option maxRecDepth 100000 in
set_option maxHeartbeats 4000000 in
theorem spec_l3Place (ys : List VI) (hl : ys.length ≤ 1000) (q : VI) (A : List Box) :
    ACalls Tryz.prog 28 [.slice (sEs (ys.map siOf)),.agg (sE (siOf q))] A (fun r A'=>(∃ n : Int,r = .int .i64 n ∧ decide (n < 0) = !decide (viK q ∈ ys.map viK)) ∧ A' = A):=by
  have hlen : (sEs (ys.map siOf)).length = ys.length:=by simp [sEs_length]
  have hq:=fun A=>spec_l2IsType (siOf q) A
  generalize hqq : siOf q = qq at *
  obtain ⟨kq,nq,tq⟩:=qq
  simp only [sE] at hq ⊢
  refine acalls_enter (cf:=cf 31 [0,1,3,4,5,9,29]) foll Tryz.func28 Tryz.ntmps28 (by simp [cf]) ?_
  simp only [Tryz.f28,EnterK_some,zW,zX,zD,builtinA,isLeaf,const1,ustrA,simprocAttr,ti3,ti4,ti9,ti23,ti64,ca57,cf,Tryz.results28]
  refine aloop_intro [0,3,5] (fun e A'=>∃ i,i ≤ ys.length ∧ (∀ k,k < i → viK (ys.getD k vi0) ≠ viK q) ∧ e = [(0,.slice (sEs (ys.map siOf))),(3,.ptr A.length 0),(5,.int .i64 i)] ∧ A' = A ++ [.cells (.int .i64 kq :: .str nq :: enc tq)]) (fun e _=>ys.length - (intOf (Abs.look 5 e)).toNat) ?_ ?_
  · simp only [zW,zX,zD,builtinA,isLeaf,const1,ustrA,simprocAttr,ti3,ti4,ti9,ti23,ti64,ca57,cf,Tryz.results28]
    exact ⟨0,by omega,fun k hk=>by omega,rfl⟩
  · rintro e A' ⟨i,hi,hk,rfl,rfl⟩
    simp only [zW,zX,zD,builtinA,isLeaf,const1,ustrA,simprocAttr,ti3,ti4,ti9,ti23,ti64,ca57,cf,Tryz.results28,hlen]
    refine condK_intro (fun h2=>?_) (fun h2=>?_)
    · have hi2 : i < ys.length:=by simpa using h2
      have hi1 : IntKind.i64.wrap ((i : Int) + 1) = ((i + 1 : Nat) : Int):=by rw [wrap64 (by omega) (by omega)]; rfl
      have pi : (0 : Int) ≤ (i : Int) ∧ (i : Int) < (ys.length : Int):=⟨by omega,by omega⟩
      have he:=siOf_getD hi2
      have hvk:=viK_si (ys.getD i vi0) q
      rw [hqq] at hvk
      have hty:=fun A=>spec_l2IsType (siOf (ys.getD i vi0)) A
      have hmem : viK (ys.getD i vi0) ∈ ys.map viK:=List.mem_map.2 ⟨_,by simp [List.getD,hi2],rfl⟩
      generalize hyy : ys.getD i vi0 = y at *
      generalize siOf y = x at *
      obtain ⟨k,n,t⟩:=x
      simp only [sE] at he hty
      simp only [zW,zX,zD,builtinA,isLeaf,const1,ustrA,simprocAttr,ti3,ti4,ti9,ti23,ti64,ca57,cf,Tryz.results28,he,hlen,enc_length]
      refine .inl ⟨by kernel_rfl,by kernel_rfl,?_⟩
      by_cases hn : n = nq
      · simp only [zW,zX,zD,builtinA,isLeaf,const1,ustrA,simprocAttr,ti3,ti4,ti9,ti23,ti64,ca57,cf,Tryz.results28,decide_eq_true hn,he,hlen,enc_length,enc_take,sub_drop,frzL_enc,sub_closed,Option.map_some]
        refine ⟨pi,pi,?_⟩
        refine callD_intro (by simp only [zW,zX,zD,builtinA,isLeaf,const1,ustrA,simprocAttr,enc_length,enc_take,sub_drop,frzL_enc,sub_closed,Option.map_some] <;> rfl) (hty _) ?_ rfl
        simp only [zW,zX,zD,builtinA,isLeaf,const1,ustrA,simprocAttr,ti3,ti4,ti9,ti23,ti64,ca57,cf,Tryz.results28,enc_length,enc_take,sub_drop,frzL_enc,sub_closed,Option.map_some]
        refine callD_intro (by simp only [zW,zX,zD,builtinA,isLeaf,const1,ustrA,simprocAttr,enc_length,enc_take,sub_drop,frzL_enc,sub_closed,Option.map_some] <;> rfl) (hq _) ?_ rfl
        simp only [decide_eq_true hn,Bool.true_and] at hvk
        by_cases ht : isTB ⟨k,n,t⟩ = isTB ⟨kq,nq,tq⟩
        · rw [decide_eq_true ht] at hvk
          have hvq : viK y = viK q:=by simpa using hvk
          have e : (isTB ⟨k,n,t⟩ == isTB ⟨kq,nq,tq⟩) = true:=by simp [ht]
          simp only [zW,zX,zD,builtinA,isLeaf,const1,ustrA,simprocAttr,ti3,ti4,ti9,ti23,ti64,ca57,cf,Tryz.results28,e]
          rw [← hvq,decide_eq_true hmem]
          exact ⟨_,rfl,decide_eq_false (by omega)⟩
        · rw [decide_eq_false ht] at hvk
          have hvq : viK y ≠ viK q:=by simpa using hvk
          have e : (isTB ⟨k,n,t⟩ == isTB ⟨kq,nq,tq⟩) = false:=by simp [ht]
          simp only [zW,zX,zD,builtinA,isLeaf,const1,ustrA,simprocAttr,ti3,ti4,ti9,ti23,ti64,ca57,cf,Tryz.results28,e,hi1,LoopK_eq]
          refine ⟨⟨i + 1,by omega,fun k' hk'=>?_,rfl⟩,?_⟩
          · rcases Nat.lt_succ_iff_lt_or_eq.mp hk' with h1 | rfl
            · exact hk k' h1
            · rw [hyy]; exact hvq
          · simp only [intOf]; omega
      · simp only [decide_eq_false hn,Bool.false_and] at hvk
        have hvq : viK y ≠ viK q:=by simpa using hvk
        simp only [zW,zX,zD,builtinA,isLeaf,const1,ustrA,simprocAttr,ti3,ti4,ti9,ti23,ti64,ca57,cf,Tryz.results28,decide_eq_false hn,hi1,LoopK_eq,enc_length]
        refine ⟨pi,⟨i + 1,by omega,fun k' hk'=>?_,rfl⟩,?_⟩
        · rcases Nat.lt_succ_iff_lt_or_eq.mp hk' with h1 | rfl
          · exact hk k' h1
          · rw [hyy]; exact hvq
        · simp only [intOf]; omega
    · have hi2 : i = ys.length:=by simp at h2; omega
      subst hi2
      have hno : viK q ∉ ys.map viK:=fun h=>by
        obtain ⟨y,hy,hk'⟩:=List.mem_map.1 h
        obtain ⟨j,hj,rfl⟩:=List.mem_iff_getElem.1 hy
        exact hk j hj (by simpa [List.getD,hj] using hk')
      rw [decide_eq_false hno]
      simp only [zW,zX,zD,builtinA,isLeaf,const1,ustrA,simprocAttr,ti3,ti4,ti9,ti23,ti64,ca57,cf,Tryz.results28]
      exact ⟨_,rfl,by decide⟩
set_option maxRecDepth 100000 in
set_option maxHeartbeats 4000000 in
theorem spec_JoinSigs (a b : List SigI) (ha : a.length ≤ 1048576) (hoa : ∀ x ∈ a,x.Ok ∧ sz x.typ ≤ 1048576) (hb : b.length ≤ 1048576) (hob : ∀ x ∈ b,x.Ok ∧ sz x.typ ≤ 1048576) {o : Option (List SigI)} (hJ : JnIs a b o) (A : List Box) :
    ACalls Tryz.prog 11 [.slice (sEs a),.slice (sEs b)] A (fun r A'=>r = .tuple [.slice (sEs (o.getD [])),.bool o.isSome] ∧ A' = A):=by
  rcases hJ with ⟨ys,zs,c,c',p,p',h8,h8',hr,hr',hord,hord',hM,hM',rfl⟩ | ⟨hn,rfl⟩
  · have hsa : sigB a = true:=by rw [sigB_reads h8 hr]; exact hord
    have hsb : sigB b = true:=by rw [sigB_reads h8' hr']; exact hord'
    have hSa:=fun A=>spec_SigValid a ha hoa A
    have hSb:=fun A=>spec_SigValid b hb hob A
    rw [hsa] at hSa
    rw [hsb] at hSb
    obtain ⟨hxl,hxo⟩:=jn_ok (fun x hx=>(hoa x hx).1) (fun x hx=>(hob x hx).1) h8 h8' hr hr'
    have hjl:=jnK_len ys zs
    have hm1:=fun A=>spec_MatchSigF hM (by omega) hxo ha hoa A
    have hm2:=fun A=>spec_MatchSigF hM' (by omega) hxo hb hob A
    have hyl:=hr.1
    have hzl:=hr'.1
    have hea:=rd_map hr
    have heb:=rd_map hr'
    refine acalls_enter (cf:=cf 53 [0,1,4,5,6,7,15,22,31,50]) foll Tryz.func11 Tryz.ntmps11 (by simp [cf]) ?_
    simp only [Tryz.f11,EnterK_some,zW,zX,zD,builtinA,isLeaf,const1,ustrA,simprocAttr,ti3,ti23,ti64,ca8,ca26,ca27,ca28,cf,Tryz.results11]
    refine callO_intro (hSa _) ?_
    rintro r A' ⟨rfl,hA⟩
    have hA:=hA.symm
    subst hA
    simp only [zW,zX,zD,builtinA,isLeaf,const1,ustrA,simprocAttr,ti3,ti23,ti64,ca8,ca26,ca27,ca28,cf,Tryz.results11]
    refine callO_intro (hSb _) ?_
    rintro r A' ⟨rfl,hA⟩
    have hA:=hA.symm
    subst hA
    simp only [zW,zX,zD,builtinA,isLeaf,const1,ustrA,simprocAttr,ti3,ti23,ti64,ca8,ca26,ca27,ca28,cf,Tryz.results11]
    refine callO_intro (spec_l2Copy a ha (fun x hx=>(hoa x hx).2) _) ?_
    rintro r A' ⟨B,j,rfl,rfl,hj,hg⟩
    have hlen:=sEs_length b
    simp only [zW,zX,zD,builtinA,isLeaf,const1,ustrA,simprocAttr,ti3,ti23,ti64,ca8,ca26,ca27,ca28,cf,Tryz.results11]
    refine aloop_intro [0,1,6,7] (fun e A'=>∃ i j B,i ≤ b.length ∧ e = [(0,.slice (sEs a)),(1,.slice (sEs b)),(6,.own (A.length + j)),(7,.int .i64 i)] ∧ A' = A ++ B ∧ j < B.length ∧ B.getD j .dead = .row 6 (sEs ((jnK ys (zs.take i)).map siOf)) 0) (fun e _=>b.length - (intOf (Abs.look 7 e)).toNat) ?_ ?_
    · simp only [zW,zX,zD,builtinA,isLeaf,const1,ustrA,simprocAttr,ti3,ti23,ti64,ca8,ca26,ca27,ca28,cf,Tryz.results11]
      exact ⟨0,j,B,by omega,rfl,rfl,hj,by rw [hg,hea]; simp [jnK]⟩
    · clear hg hj
      rintro e A' ⟨i,j,B,hi,rfl,rfl,hj,hg⟩
      simp only [zW,zX,zD,builtinA,isLeaf,const1,ustrA,simprocAttr,ti3,ti23,ti64,ca8,ca26,ca27,ca28,cf,Tryz.results11,hlen]
      refine condK_intro (fun h2=>?_) (fun h2=>?_)
      · have hi2 : i < b.length:=by simpa using h2
        have hi1 : IntKind.i64.wrap ((i : Int) + 1) = ((i + 1 : Nat) : Int):=by rw [wrap64 (by omega) (by omega)]; rfl
        have pi : (0 : Int) ≤ (i : Int) ∧ (i : Int) < (b.length : Int):=⟨by omega,by omega⟩
        have he:=sEs_getD hi2
        rw [itemOf_si (hr'.2 i hi2).2] at he
        have hpl:=fun A=>spec_l3Place ys (by omega) (zs.getD i vi0) A
        rw [← hea] at hpl
        have hsn:=jnK_snoc ys (show i < zs.length by omega)
        have hjl:=jnK_len ys (zs.take i)
        have hjl2 : (zs.take i).length ≤ 8:=by simp; omega
        generalize zs.getD i vi0 = y at *
        generalize jnK ys (zs.take i) = us at *
        have hsl:=sE_leaf (siOf y)
        have hrs : sEs (us.map siOf) ++ [sE (siOf y)] = sEs ((us ++ [y]).map siOf):=by simp [sEs]
        generalize siOf y = x at *
        obtain ⟨k,n,t⟩:=x
        simp only [sE] at he hpl hrs hsl
        simp only [zW,zX,zD,builtinA,isLeaf,const1,ustrA,simprocAttr,ti3,ti23,ti64,ca8,ca26,ca27,ca28,cf,Tryz.results11,he,hlen,enc_length,enc_take]
        refine ⟨pi,?_⟩
        refine callO_intro (hpl _) ?_
        rintro r A' ⟨⟨v,rfl,hv⟩,hA⟩
        have hA:=hA.symm
        subst hA
        by_cases hm : viK y ∈ ys.map viK
        · rw [if_pos hm] at hsn
          rw [decide_eq_true hm] at hv
          simp only [zW,zX,zD,builtinA,isLeaf,const1,ustrA,simprocAttr,ti3,ti23,ti64,ca8,ca26,ca27,ca28,cf,Tryz.results11,hv,Bool.not_true,hi1,LoopK_eq]
          refine ⟨⟨i + 1,j,B,by omega,rfl,rfl,hj,by rw [hg,hsn]⟩,?_⟩
          simp only [intOf]; omega
        · rw [if_neg hm] at hsn
          rw [decide_eq_false hm] at hv
          have hgX : ∀ Y,(B ++ Y).getD j .dead = .row 6 (sEs (us.map siOf)) 0:=fun Y=>by rw [Abs.getD_append_left hj]; exact hg
          have hsX : ∀ Y : List Box,(B ++ Y).set j .dead = B.set j .dead ++ Y:=fun Y=>by rw [List.set_append_left _ _ hj]
          have hjX : ∀ n,j < B.length + n:=fun n=>by omega
          simp only [zW,zX,zD,builtinA,isLeaf,const1,ustrA,simprocAttr,ti3,ti23,ti64,ca8,ca26,ca27,ca28,cf,Tryz.results11,hv,Bool.not_false,he,hlen,hg,hj,hgX,hsX,hjX,hrs,hi1,LoopK_eq,sEs_length,enc_length,enc_take,sub_drop,frzL_enc,sub_closed,Option.map_some]
          refine ⟨pi,fun v hv=>hsl v hv,⟨fun r hr=>by rw [List.mem_singleton.1 hr]; simp [enc_length],by rw [List.length_map]; omega⟩,⟨i + 1,B.length + 1,_,by omega,rfl,rfl,by simp,?_⟩,?_⟩
          · rw [Abs.getD_append_right (by simp),hsn]; simp
          · simp only [intOf]; omega
      · have hi2 : i = b.length:=by simp at h2; omega
        subst hi2
        rw [← hzl,List.take_length] at hg
        have hml : ((jnK ys zs).map siOf).length ≤ 1048576:=by omega
        have hnl:=sEs_length ((jnK ys zs).map siOf)
        generalize (jnK ys zs).map siOf = xs at *
        have hfz:=fz1 (A:=A) rfl hj hg
        simp only [zW,zX,zD,builtinA,isLeaf,const1,ustrA,simprocAttr,ti3,ti23,ti64,ca8,ca26,ca27,ca28,cf,Tryz.results11]
        refine callK_intro hfz (spec_l2Copy xs hml (fun x hx=>(hxo x hx).2) _) ?_ rfl
        rintro r A' ⟨C,k,rfl,rfl,hk,hgk⟩
        have hgk1 : (B.set j (.row 6 (sEs xs) (sEs xs).length) ++ C).getD (B.length + k) .dead = .row 6 (sEs xs) 0:=by rw [Abs.getD_append_right (by simp),List.length_set,show B.length + k - B.length = k by omega]; exact hgk
        have hkl : B.length + k < (B.set j (.row 6 (sEs xs) (sEs xs).length) ++ C).length:=by simp; omega
        rw [List.append_assoc]
        simp only [List.length_append,List.length_set,Nat.add_assoc]
        generalize B.set j (.row 6 (sEs xs) (sEs xs).length) ++ C = D at *
        have hfz2:=fz2 (A:=A) (X:=sEs a) rfl hkl hgk1
        simp only [zW,zX,zD,builtinA,isLeaf,const1,ustrA,simprocAttr,ti3,ti23,ti64,ca8,ca26,ca27,ca28,cf,Tryz.results11]
        refine callK_intro hfz2 (hm1 _) ?_ rfl
        rintro r A' ⟨rfl,rfl⟩
        by_cases hc : c = 0
        · have hfz3:=fz2 (A:=A) (B:=D.set (B.length + k) (.row 6 (sEs xs) (sEs xs).length)) (X:=sEs b) rfl (by simpa using hkl) (getD_set_self hkl)
          simp only [zW,zX,zD,builtinA,isLeaf,const1,ustrA,simprocAttr,ti3,ti23,ti64,ca8,ca26,ca27,ca28,cf,Tryz.results11,decide_eq_true hc,Bool.not_true]
          refine callK_intro hfz3 (hm2 _) ?_ rfl
          rintro r A' ⟨rfl,rfl⟩
          by_cases hc' : c' = 0
          · rw [if_pos ⟨hc,hc'⟩]
            have hg4 : (D.set (B.length + k) (Box.row 6 (sEs xs) (sEs xs).length)).getD (B.length + k) .dead = .row 6 (sEs xs) (sEs xs).length:=getD_set_self hkl
            simp only [zW,zX,zD,builtinA,isLeaf,const1,ustrA,simprocAttr,ti3,ti23,ti64,ca8,ca26,ca27,ca28,cf,Tryz.results11,decide_eq_true hc',Bool.not_true,hg4]
          · rw [if_neg (fun h=>hc' h.2)]
            simp only [zW,zX,zD,builtinA,isLeaf,const1,ustrA,simprocAttr,ti3,ti23,ti64,ca8,ca26,ca27,ca28,cf,Tryz.results11,decide_eq_false hc',Bool.not_false]
            rfl
        · rw [if_neg (fun h=>hc h.1)]
          simp only [zW,zX,zD,builtinA,isLeaf,const1,ustrA,simprocAttr,ti3,ti23,ti64,ca8,ca26,ca27,ca28,cf,Tryz.results11,decide_eq_false hc,Bool.not_false]
          rfl
  · cases hsa : sigB a with
    | false =>
      have hSa:=fun A=>spec_SigValid a ha hoa A
      rw [hsa] at hSa
      refine acalls_enter (cf:=cf 53 [0,1,4,5,6,7,15,22,31,50]) foll Tryz.func11 Tryz.ntmps11 (by simp [cf]) ?_
      simp only [Tryz.f11,EnterK_some,zW,zX,zD,builtinA,isLeaf,const1,ustrA,simprocAttr,ti3,ti23,ti64,ca8,ca26,ca27,ca28,cf,Tryz.results11]
      refine callO_intro (hSa _) ?_
      rintro r A' ⟨rfl,hA⟩
      have hA:=hA.symm
      subst hA
      simp only [zW,zX,zD,builtinA,isLeaf,const1,ustrA,simprocAttr,ti3,ti23,ti64,ca8,ca26,ca27,ca28,cf,Tryz.results11]
      rfl
    | true =>
      have hsb : sigB b = false:=by
        rcases hn with h | h
        · rw [h] at hsa; cases hsa
        · exact h
      have hSa:=fun A=>spec_SigValid a ha hoa A
      have hSb:=fun A=>spec_SigValid b hb hob A
      rw [hsa] at hSa
      rw [hsb] at hSb
      refine acalls_enter (cf:=cf 53 [0,1,4,5,6,7,15,22,31,50]) foll Tryz.func11 Tryz.ntmps11 (by simp [cf]) ?_
      simp only [Tryz.f11,EnterK_some,zW,zX,zD,builtinA,isLeaf,const1,ustrA,simprocAttr,ti3,ti23,ti64,ca8,ca26,ca27,ca28,cf,Tryz.results11]
      refine callO_intro (hSa _) ?_
      rintro r A' ⟨rfl,hA⟩
      have hA:=hA.symm
      subst hA
      simp only [zW,zX,zD,builtinA,isLeaf,const1,ustrA,simprocAttr,ti3,ti23,ti64,ca8,ca26,ca27,ca28,cf,Tryz.results11]
      refine callO_intro (hSb _) ?_
      rintro r A' ⟨rfl,hA⟩
      have hA:=hA.symm
      subst hA
      simp only [zW,zX,zD,builtinA,isLeaf,const1,ustrA,simprocAttr,ti3,ti23,ti64,ca8,ca26,ca27,ca28,cf,Tryz.results11]
      rfl
end Go.Proofs.YtngheinmebopeaaGreatDoor
