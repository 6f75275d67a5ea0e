/- ModsS, OwnTy, OwnMark. -/
import Derived.Test.YtnjdbgiincliaaaGreatM06
import Derived.Test.YtnjdbgiincliaaaGreatAbsW3
/- The model's SigModules. -/
set_option linter.unusedVariables false
set_option linter.unusedSimpArgs false
namespace Go.Proofs.YtnjdbgiincliaaaGreat
open Go.Abs
def bRows (fl : List Bool) : List (List AV):=fl.map fun b=>[AV.bool b]
theorem bRows_length (fl : List Bool) : (bRows fl).length = fl.length:=by simp [bRows]
theorem bRows_getD {fl : List Bool} {i : Nat} (h : i < fl.length) : (bRows fl).getD i [] = [.bool (fl.getD i false)]:=by simp [bRows,List.getD,h]
set_option maxRecDepth 100000 in
set_option maxHeartbeats 1000000 in
theorem spec_l2Letters (fl : List Bool) (hl : fl.length = 26) (A : List Box) : ACalls Tryz.prog 89 [.slice (bRows fl)] A (fun r A'=>NsNew A (letters fl 26) r A'):=by
  refine acalls_enterK (cf:=cf 25 [0,2,3,4,9,15]) foll Tryz.func89 Tryz.ntmps89 (by simp [cf]) ?_
  simp only [Tryz.f89,EnterK_some,zW,zX,zD,builtinA,isLeaf,const1,ustrA,simprocAttr,ti3,ti4,ti5,ti9,ti48,ti57,ti135,cf,Tryz.results89]
  refine aloop_intro [0,3,4] (fun e A'=>∃ i j,i ≤ 26 ∧ A'.take A.length = A ∧ A.length ≤ j ∧ j < A'.length ∧ A'.getD j .dead = .row 1 (aEs (letters fl i)) 0 ∧ e = [(0,.slice (bRows fl)),(3,.own j),(4,.int .i64 (i : Nat))]) (fun e _=>26 - (intOf (Abs.look 4 e)).toNat) ?_ ?_
  · simp only [zW,zX,zD,builtinA,isLeaf,const1,ustrA,simprocAttr,ti3,ti4,ti5,ti9,ti48,ti57,ti135,cf,Tryz.results89]
    exact ⟨0,A.length,by omega,by omega,by omega,by rw [Abs.getD_append_right (Nat.le_refl _),Nat.sub_self]; rfl,rfl⟩
  · rintro e A' ⟨i,j,hi,ht,hj1,hj2,hb,rfl⟩
    by_cases hlt : i < 26
    · have d1 : decide ((i : Int) < (fl.length : Int)) = true:=by simp; omega
      have pi : 0 ≤ (i : Int) ∧ (i : Int) < (fl.length : Int):=by omega
      have hg:=bRows_getD (show i < fl.length by omega)
      have hi1 : IntKind.i64.wrap ((i : Int) + 1) = ((i + 1 : Nat) : Int):=by rw [wrap64 (by omega) (by omega)]; rfl
      cases hf : fl.getD i false with
      | false =>
        rw [hf] at hg
        have hle : letters fl (i + 1) = letters fl i:=by rw [letters,hf]; simp
        simp only [zW,zX,zD,builtinA,isLeaf,const1,ustrA,simprocAttr,ti3,ti4,ti5,ti9,ti48,ti57,ti135,cf,Tryz.results89,bRows_length,d1,hg,hi1,LoopK_eq]
        refine ⟨pi,⟨i + 1,j,by omega,ht,hj1,hj2,by rw [hle]; exact hb,rfl⟩,?_⟩
        simp only [intOf]; omega
      | true =>
        rw [hf] at hg
        have hle : letters fl (i + 1) = letters fl i ++ [letJ i]:=by rw [letters,hf]; simp
        have hb2 : ∀ L,(A' ++ L).getD j .dead = .row 1 (aEs (letters fl i)) 0:=fun L=>by rw [Abs.getD_append_left hj2]; exact hb
        have hw : ∀ i : Nat,i < 26 → IntKind.u8.wrap (65 + IntKind.u8.wrap (i : Int)) = ((65 + i : Nat) : Int):=by decide
        have hw1:=hw i hlt
        simp only [zW,zX,zD,builtinA,isLeaf,const1,ustrA,simprocAttr,ti3,ti4,ti5,ti9,ti48,ti57,ti135,cf,Tryz.results89,bRows_length,d1,hg,hi1,hb,hb2,hw1,Int.toNat_natCast,LoopK_eq]
        refine ⟨pi,fun v hv=>by rw [List.mem_singleton.1 hv],fun r hr=>by rw [List.mem_singleton.1 hr]; rfl,fun v hv=>by rw [List.mem_singleton.1 hv],?_⟩
        have hlet : ∀ n,(letters fl n).length ≤ n:=fun n=>by
          induction n with
          | zero=>simp [letters]
          | succ n ih=>rw [letters,List.length_append]; split <;> simp <;> omega
        have hll:=hlet i
        refine ⟨⟨fun r hr=>by rw [List.mem_singleton.1 hr]; rfl,by rw [aEs_length]; omega⟩,⟨i + 1,A'.length + 2,by omega,?_,by omega,by omega,?_,rfl⟩,by simp only [intOf]; omega⟩
        · have hAl : A.length ≤ A'.length:=by omega
          rw [List.take_append_of_le_length (by simp; omega),List.take_set_of_le hj1,List.take_append_of_le_length hAl,ht]
        · rw [Abs.getD_append_right (by simp),hle]
          simp [aEs,letJ]
    · have d1 : decide ((i : Int) < (fl.length : Int)) = false:=by simp; omega
      have e : i = 26:=by omega
      subst e
      have d2 : decide ((26 : Int) < (fl.length : Int)) = false:=decide_eq_false (by omega)
      simp only [zW,zX,zD,builtinA,isLeaf,const1,ustrA,simprocAttr,ti3,ti4,ti5,ti9,ti48,ti57,ti135,cf,Tryz.results89,bRows_length,d1,d2]
      refine ⟨A'.drop A.length,?_,.inr ⟨j - A.length,?_,?_,?_⟩⟩
      · conv=>lhs; rw [← List.take_append_drop A.length A',ht]
      · rw [show A.length + (j - A.length) = j by omega]
      · simp; omega
      · rw [← hb]
        simp only [List.getD,List.getElem?_drop]
        rw [show A.length + (j - A.length) = j by omega]
theorem bRow_set {fl : List Bool} {k : Nat} (h : k < fl.length) : (bRows fl).set k (AV.bool true :: List.drop 1 ((bRows fl).getD k [])) = bRows (fl.set k true):=by
  rw [bRows_getD h]
  simp [bRows,List.map_set]
def FS (f : Nat) (fl : List Bool) (A : List Box) : Prop:=A.getD f .dead = .row 1 (bRows fl) 0 ∧ f < A.length
theorem FS.app {f : Nat} {fl : List Bool} {A : List Box} (h : FS f fl A) (B : List Box) : FS f fl (A ++ B):=⟨by rw [Abs.getD_append_left h.2]; exact h.1,by have:=h.2; simp; omega⟩
theorem setFs_take {ns : List Nm} {fl : List Bool} {i : Nat} (h : i < ns.length) : setFs fl ((ns.take (i + 1)).map Prod.fst) = setF (setFs fl ((ns.take i).map Prod.fst)) (ns.getD i ([],[])).1:=by
  have e : ns.take (i + 1) = ns.take i ++ [ns.getD i ([],[])]:=by rw [List.take_add_one]; simp [List.getD,h]
  rw [e,List.map_append,setFs,List.foldl_append]; rfl
set_option maxRecDepth 100000 in
set_option maxHeartbeats 2000000 in
theorem l2Mods_of (t : Ty) (ns : List Nm) (hno : nOk ns) (hnl : ns.length ≤ 1000) (hlet : ∀ p ∈ ns,p.1 ≠ [] → isLet p.1)
    (hnm : ∀ A,ACalls Tryz.prog 179 [.nils,.agg (enc t)] A (fun r A'=>OwnL A' ns r ∧ FrN .nils r A A'))
    (f : Nat) (fl : List Bool) (hl : fl.length = 26) (A : List Box) (hf : FS f fl A) :
    ACalls Tryz.prog 88 [.own f,.agg (enc t)] A (fun r A'=>r = .own f ∧ FS f (setFs fl (ns.map Prod.fst)) A' ∧ FrK f A A'):=by
  have hl4:=enc_length t
  have ht4:=enc_take t
  have hf4:=fun A=>frzL_enc t A
  generalize enc t = tm at *
  refine acalls_enterK (cf:=cf 31 [0,1,3,4,5,6,12,20]) foll Tryz.func88 Tryz.ntmps88 (by simp [cf]) ?_
  simp only [Tryz.f88,EnterK_some,zW,zX,zD,builtinA,isLeaf,const1,ustrA,simprocAttr,ti3,ti4,ti5,ti9,ti34,ti36,ti135,ca179,cf,Tryz.results88]
  simp only [zW,zX,zD,builtinA,isLeaf,const1,ustrA,simprocAttr,ti3,ti4,ti5,ti9,ti34,ti36,ti135,ca179,cf,Tryz.results88,hl4,ht4]
  refine callO_intro (hnm _) ?_
  rintro r A1 ⟨hO,hF⟩
  have hfA:=hf.2
  have g1 : FS f fl A1:=by
    refine ⟨?_,by have:=hF.1; simp at this; omega⟩
    rw [hF.2.2 f (by simp; omega) (by simp),Abs.getD_append_left hfA]; exact hf.1
  have g2 : FrK f A A1:=⟨by have:=hF.1; simp at this; omega,fun k hk hne=>by rw [hF.2.2 k (by simp; omega) (by simp),Abs.getD_append_left hk]⟩
  have hsep : r ≠ .own f:=by
    rcases hF.2.1 with rfl | ⟨j,rfl,hj⟩
    · simp
    · intro e; injection e with e; simp at hj; omega
  clear hF
  rcases hO with ⟨rfl,rfl⟩ | ⟨j,rfl,hj,hbj⟩
  · simp only [zW,zX,zD,builtinA,isLeaf,const1,ustrA,simprocAttr,ti3,ti4,ti5,ti9,ti34,ti36,ti135,ca179,cf,Tryz.results88]
    refine aloop_intro [0,5,6] (fun e A'=>e = [(0,.own f),(5,.nils),(6,.int .i64 0)] ∧ A' = A1) (fun e _=>0) ?_ ?_
    · simp only [zW,zX,zD,builtinA,isLeaf,const1,ustrA,simprocAttr,ti3,ti4,ti5,ti9,ti34,ti36,ti135,ca179,cf,Tryz.results88]
    · rintro e A' ⟨rfl,rfl⟩
      simp only [zW,zX,zD,builtinA,isLeaf,const1,ustrA,simprocAttr,ti3,ti4,ti5,ti9,ti34,ti36,ti135,ca179,cf,Tryz.results88]
      exact ⟨g1,g2⟩
  · have hjf : f ≠ j:=fun e=>hsep (by rw [e])
    simp only [zW,zX,zD,builtinA,isLeaf,const1,ustrA,simprocAttr,ti3,ti4,ti5,ti9,ti34,ti36,ti135,ca179,cf,Tryz.results88]
    refine aloop_intro [0,5,6] (fun e A'=>∃ i,i ≤ ns.length ∧ FS f (setFs fl ((ns.take i).map Prod.fst)) A' ∧ FrK f A1 A' ∧ e = [(0,.own f),(5,.own j),(6,.int .i64 (i : Nat))]) (fun e _=>ns.length - (intOf (Abs.look 6 e)).toNat) ?_ ?_
    · simp only [zW,zX,zD,builtinA,isLeaf,const1,ustrA,simprocAttr,ti3,ti4,ti5,ti9,ti34,ti36,ti135,ca179,cf,Tryz.results88]
      exact ⟨0,by omega,g1,FrK.refl _ _,rfl⟩
    · rintro e A' ⟨i,hi,hfs,hfr,rfl⟩
      have hbj2 : A'.getD j .dead = .row 4 (nrows ns) 0:=by rw [hfr.2 j hj (Ne.symm hjf)]; exact hbj
      have hfl : (setFs fl ((ns.take i).map Prod.fst)).length = 26:=by rw [setFs_len,hl]
      by_cases hlt : i < ns.length
      · have d1 : decide ((i : Int) < (ns.length : Int)) = true:=by simp; omega
        have pi : 0 ≤ (i : Int) ∧ (i : Int) < (ns.length : Int):=by omega
        have hg:=nrows_getD hlt
        have hi1 : IntKind.i64.wrap ((i : Int) + 1) = ((i + 1 : Nat) : Int):=by rw [wrap64 (by omega) (by omega)]; rfl
        have htk:=setFs_take (fl:=fl) hlt
        have hlp:=hlet (ns.getD i ([],[])) (by simp [List.getD,hlt])
        generalize setFs fl ((ns.take i).map Prod.fst) = fl2 at *
        generalize ns.getD i ([],[]) = p at *
        by_cases hm : p.1 = []
        · have hsf : setF fl2 p.1 = fl2:=by rw [setF,if_pos hm]
          simp only [zW,zX,zD,builtinA,isLeaf,const1,ustrA,simprocAttr,ti3,ti4,ti5,ti9,ti34,ti36,ti135,ca179,cf,Tryz.results88,hbj2,nrows_length,d1,hg,decide_eq_true hm,hi1,LoopK_eq]
          refine ⟨pi,⟨i + 1,by omega,by rw [htk,hsf]; exact hfs,hfr,rfl⟩,?_⟩
          simp only [intOf]; omega
        · obtain ⟨k,hk,hpk⟩:=hlp hm
          have hsf : setF fl2 p.1 = fl2.set k true:=by rw [setF,if_neg hm,hpk,letJ_at hk]
          have hrs:=bRow_set (fl:=fl2) (k:=k) (by omega)
          rw [hpk] at hg hm
          have hfs1:=hfs.1
          have hfs2:=hfs.2
          have hwk : ∀ k : Nat,k < 26 → IntKind.u8.wrap ((((letJ k).getD 0 0).toNat : Int) - 65) = (k : Int):=by decide
          have hwk1:=hwk k hk
          have hll : (0 : Int) < ((letJ k).length : Int):=by simp [letJ]
          simp only [zW,zX,zD,builtinA,isLeaf,const1,ustrA,simprocAttr,ti3,ti4,ti5,ti9,ti34,ti36,ti135,ca179,cf,Tryz.results88,hbj2,nrows_length,d1,hg,decide_eq_false hm,hi1,hfs1,bRows_length,hfl,hwk1,hll,hrs,Int.toNat_natCast,LoopK_eq]
          refine ⟨pi,pi,⟨by omega,by omega⟩,⟨by omega,by omega,fun v hv=>by rw [List.mem_singleton.1 hv]⟩,⟨i + 1,by omega,?_,?_,rfl⟩,by simp only [intOf]; omega⟩
          · rw [htk,hsf]
            exact ⟨getD_set_self hfs2,by simpa using hfs2⟩
          · exact hfr.trans ⟨by simp,fun k hk hne=>getD_set_ne' (Ne.symm hne)⟩
      · have d1 : decide ((i : Int) < (ns.length : Int)) = false:=by simp; omega
        have e : i = ns.length:=by omega
        subst e
        rw [List.take_length] at hfs
        simp only [zW,zX,zD,builtinA,isLeaf,const1,ustrA,simprocAttr,ti3,ti4,ti5,ti9,ti34,ti36,ti135,ca179,cf,Tryz.results88,hbj2,nrows_length,d1]
        exact ⟨hfs,g2.trans hfr⟩
set_option maxRecDepth 100000 in
theorem names_zero (A : List Box) : ACalls Tryz.prog 179 [.nils,.agg (enc ty0)] A (fun r A'=>OwnL A' [] r ∧ FrN .nils r A A'):=by
  rw [ty0,enc]
  refine acalls_enterK (cf:=cf 43 [0,1,3,4,5,6,9,13,21,32]) foll Tryz.func179 Tryz.ntmps179 (by simp [cf]) ?_
  simp only [Tryz.f179,EnterK_some,zW,zX,zD,builtinA,isLeaf,const1,ustrA,simprocAttr,ti3,ti34,ti36,ca179,ca204,ca249,cf,Tryz.results179]
  refine aloop_intro [0,3,6] (fun e A'=>e = [(0,.nils),(3,.ptr A.length 0),(6,.int .i64 0)] ∧ A' = A ++ [.cells [.int .i64 0,.str [],.str [],.slice []]]) (fun e _=>0) ?_ ?_
  · simp only [zW,zX,zD,builtinA,isLeaf,const1,ustrA,simprocAttr,ti3,ti34,ti36,ca179,ca204,ca249,cf,Tryz.results179]
    simp [encs]
  · rintro e A' ⟨rfl,rfl⟩
    simp only [zW,zX,zD,builtinA,isLeaf,const1,ustrA,simprocAttr,ti3,ti34,ti36,ca179,ca204,ca249,cf,Tryz.results179]
    first
      | exact ⟨.inl ⟨rfl,rfl⟩,FrN.app _ _ _⟩
      | (refine condK_intro (fun h=>absurd h (by simp)) (fun _=>?_)
         simp only [zW,zX,zD,builtinA,isLeaf,const1,ustrA,simprocAttr,ti3,ti34,ti36,ca179,ca204,ca249,cf,Tryz.results179]
         exact ⟨.inl ⟨rfl,rfl⟩,FrN.app _ _ _⟩)
noncomputable def nmI : VI → List Nm
  | .ab _=>[]
  | .al _ v=>nmsV [] v
  | .va _ v=>nmsV [] v
noncomputable def nmIs (ys : List VI) : List Nm:=ys.flatMap nmI
theorem nmIs_take {ys : List VI} {i : Nat} (h : i < ys.length) : nmIs (ys.take (i + 1)) = nmIs (ys.take i) ++ nmI (ys.getD i vi0):=by
  have e : ys.take (i + 1) = ys.take i ++ [ys.getD i vi0]:=by rw [List.take_add_one]; simp [List.getD,h]
  rw [nmIs,e,List.flatMap_append]; simp [nmIs]
theorem addN_fst (ns : List Nm) (p : Nm) (q : List UInt8) : q ∈ (addN ns p).map Prod.fst ↔ q ∈ ns.map Prod.fst ∨ q = p.1:=by
  unfold addN
  split
  · rename_i h
    constructor
    · exact .inl
    · rintro (h' | rfl)
      · exact h'
      · exact List.mem_map.2 ⟨p,h,rfl⟩
  · simp
theorem nmsV_fst : ∀ (v : VT) (ns : List Nm) (q : List UInt8),q ∈ (nmsV ns v).map Prod.fst ↔ q ∈ ns.map Prod.fst ∨ q ∈ mdV v
  | .num,ns,q=>by simp [nmsV,mdV]
  | .nm m k,ns,q=>by rw [nmsV,addN_fst]; simp [mdV]
  | .fn a b,ns,q=>by rw [nmsV,nmsV_fst b,nmsV_fst a,mdV,List.mem_append,or_assoc]
theorem nmI_mem (y : VI) (q : List UInt8) : q ∈ (nmI y).map Prod.fst ↔ q ∈ mdI y:=by
  cases y with
  | ab n=>simp [nmI,mdI]
  | al n v=>rw [nmI,mdI,nmsV_fst]; simp
  | va n v=>rw [nmI,mdI,nmsV_fst]; simp
theorem nmIs_mem (ys : List VI) (q : List UInt8) : q ∈ mdIs ys ↔ q ∈ (nmIs ys).map Prod.fst:=by
  simp only [mdIs,nmIs,List.map_flatMap,List.mem_flatMap]
  exact ⟨fun ⟨y,h,k⟩=>⟨y,h,(nmI_mem y q).2 k⟩,fun ⟨y,h,k⟩=>⟨y,h,(nmI_mem y q).1 k⟩⟩
theorem l2Mods_item {x : SigI} {y : VI} (h : ItemOf x y) (f : Nat) (fl : List Bool) (hl : fl.length = 26) (A : List Box) (hf : FS f fl A) :
    ACalls Tryz.prog 88 [.own f,.agg (enc x.typ)] A (fun r A'=>r = .own f ∧ FS f (setFs fl ((nmI y).map Prod.fst)) A' ∧ FrK f A A'):=by
  have hv : ∀ v,VOk v → x.typ = toTy v → ACalls Tryz.prog 88 [.own f,.agg (enc x.typ)] A (fun r A'=>r = .own f ∧ FS f (setFs fl ((nmsV [] v).map Prod.fst)) A' ∧ FrK f A A'):=fun v hv ht=>by
    have h1:=nmsV_len v []
    have h2:=hv.cnt
    have h3 : nOk (nmsV [] v):=nmsV_ok v (by intro q hq; simp at hq) hv.ok
    refine l2Mods_of x.typ (nmsV [] v) h3 (by simp at h1; omega) (fun p hp hq=>?_) (fun A=>?_) f fl hl A hf
    · have : p.1 ∈ (nmsV [] v).map Prod.fst:=List.mem_map.2 ⟨p,hp,rfl⟩
      rw [nmsV_fst] at this
      rcases this with h | h
      · simp at h
      · exact mdV_let v hv.ok p.1 h hq
    · rw [ht]
      exact namesT v A [] .nils hv.ok (by simp; omega) (by intro q hq; simp at hq) (.inl ⟨rfl,rfl⟩)
  cases y with
  | ab n=>rw [h.2.2]; exact l2Mods_of ty0 [] (by intro q hq; simp at hq) (by simp) (by simp) names_zero f fl hl A hf
  | al n v=>exact hv v h.2.2.2 h.2.2.1
  | va n v=>exact hv v h.2.2.2 h.2.2.1
theorem item_rd (x : SigI) : (∃ y,localB x.name = true ∧ ItemOf x y) ∨ itemOk x = false:=by
  by_cases hl : localB x.name = true
  · by_cases k1 : x.kind = 1
    · by_cases ht : x.typ = ty0
      · exact .inl ⟨.ab x.name,hl,rfl,k1,ht⟩
      · exact .inr (by simp [itemOk,k1,ht])
    · by_cases k2 : x.kind = 2
      · rcases valid_cases x.typ with ⟨v,h1,h2⟩ | h
        · exact .inl ⟨.al x.name v,hl,rfl,k2,h1,h2⟩
        · exact .inr (by simp [itemOk,k2,h])
      · by_cases k3 : x.kind = 3
        · rcases valid_cases x.typ with ⟨v,h1,h2⟩ | h
          · exact .inl ⟨.va x.name v,hl,rfl,k3,h1,h2⟩
          · exact .inr (by simp [itemOk,k3,h])
        · exact .inr (by simp [itemOk,k1,k2,k3])
  · exact .inr (by simp [itemOk,hl])
theorem rd_all : ∀ s : List SigI,(∃ ys,ReadsTo s ys) ∨ ∃ x ∈ s,itemOk x = false
  | []=>.inl ⟨[],rfl,fun i hi=>by simp at hi⟩
  | x :: s=>by
    rcases item_rd x with ⟨y,h1,h2⟩ | h
    · rcases rd_all s with ⟨ys,h3,h4⟩ | ⟨z,h5,h6⟩
      · refine .inl ⟨y :: ys,by simp [h3],fun i hi=>?_⟩
        cases i with
        | zero=>exact ⟨h1,h2⟩
        | succ i=>simpa using h4 i (by simpa using hi)
      · exact .inr ⟨z,.tail _ h5,h6⟩
    · exact .inr ⟨x,.head _,h⟩
theorem rd_yes {s : List SigI} (h : sigB s = true) : ∃ ys,s.length ≤ 8 ∧ ReadsTo s ys ∧ ordB ys = true:=by
  by_cases h8 : s.length ≤ 8
  · rcases rd_all s with ⟨ys,hr⟩ | hb
    · exact ⟨ys,h8,hr,by rw [← sigB_reads h8 hr,h]⟩
    · rw [sigB_bad (.inr hb)] at h; cases h
  · rw [sigB_bad (.inl (by omega))] at h; cases h
set_option maxRecDepth 100000 in
set_option maxHeartbeats 2000000 in
theorem spec_SigModules (s : List SigI) (hs : s.length ≤ 1048576) (ho : ∀ x ∈ s,x.Ok ∧ sz x.typ ≤ 1048576) (A : List Box) : ACalls Tryz.prog 23 [.slice (sEs s)] A (fun r A'=>∃ l,MdIs s l ∧ NsNew A l r A'):=by
  have hsv:=fun A=>spec_SigValid s hs ho A
  have fin : ∀ (fl : List Bool) (A' : List Box),fl.length = 26 → FS A.length fl A' → FrK A.length A A' → ∀ l,l = letters fl 26 → ∀ r A2,NsNew (A'.set A.length (.row 1 (bRows fl) (bRows fl).length)) l r A2 → NsNew A l r A2:=fun fl A' hl hf hk l hll r A2 h=>by
    obtain ⟨B,rfl,h⟩:=h
    have htk : A'.take A.length = A:=take_of_getD hk.1 rfl fun k hkl=>hk.2 k hkl (by omega)
    have hsp : A'.set A.length (.row 1 (bRows fl) (bRows fl).length) = A ++ (A'.drop A.length).set 0 (.row 1 (bRows fl) (bRows fl).length):=by
      conv=>lhs; rw [← List.take_append_drop A.length A',htk]
      rw [List.set_append_right _ _ (Nat.le_refl _),Nat.sub_self]
    have hln : (A'.set A.length (.row 1 (bRows fl) (bRows fl).length)).length = A.length + (A'.length - A.length):=by have:=hk.1; simp; omega
    refine ⟨(A'.drop A.length).set 0 (.row 1 (bRows fl) (bRows fl).length) ++ B,by rw [hsp,List.append_assoc],?_⟩
    rcases h with h | ⟨j,rfl,hj,hb⟩
    · exact .inl h
    · refine .inr ⟨(A'.length - A.length) + j,by rw [hln,Nat.add_assoc],by simp; omega,?_⟩
      rw [Abs.getD_append_right (by simp)]
      simpa using hb
  have hz : bRows (List.replicate 26 false) = [[.bool false],[.bool false],[.bool false],[.bool false],[.bool false],[.bool false],[.bool false],[.bool false],[.bool false],[.bool false],[.bool false],[.bool false],[.bool false],[.bool false],[.bool false],[.bool false],[.bool false],[.bool false],[.bool false],[.bool false],[.bool false],[.bool false],[.bool false],[.bool false],[.bool false],[.bool false]]:=rfl
  have hz26 : (List.replicate 26 false).length = 26:=rfl
  have fz : ∀ (fl : List Bool) (A' : List Box),FS A.length fl A' → frzs [.own A.length] A' = some ([.slice (bRows fl)],A'.set A.length (.row 1 (bRows fl) (bRows fl).length)):=fun fl A' h=>by
    simp only [frzs,frzC,frz1,h.1]
  cases hsb : sigB s with
  | false =>
    rw [hsb] at hsv
    have h0 : letters (List.replicate 26 false) 26 = []:=by
      have hm : ∀ q,q ∉ letters (List.replicate 26 false) 26:=fun q hq=>by
        obtain ⟨j,_,h,_⟩:=(letters_mem _ _ _).1 hq
        rw [List.getD_eq_getElem?_getD,List.getElem?_replicate] at h
        split at h <;> cases h
      exact List.eq_nil_iff_forall_not_mem.2 hm
    have hend : ∀ A',FS A.length (List.replicate 26 false) A' → FrK A.length A A' → ∀ r A2,NsNew (A'.set A.length (.row 1 (bRows (List.replicate 26 false)) (bRows (List.replicate 26 false)).length)) (letters (List.replicate 26 false) 26) r A2 → ∃ l,MdIs s l ∧ NsNew A l r A2:=fun A' h1 h2 r A2 h=>⟨[],.inr ⟨hsb,rfl⟩,fin _ A' hz26 h1 h2 [] h0.symm r A2 (by rw [h0] at h; exact h)⟩
    generalize List.replicate 26 false = fl at *
    refine acalls_enterK (cf:=cf 25 [0,2,3,4,13]) foll Tryz.func23 Tryz.ntmps23 (by simp [cf]) ?_
    simp only [Tryz.f23,EnterK_some,zW,zX,zD,builtinA,isLeaf,const1,ustrA,simprocAttr,ti3,ti4,ti36,ti50,ti69,ti135,ca87,ca88,ca89,cf,Tryz.results23]
    refine aloop_intro [0,3,4] (fun e A'=>FS A.length fl A' ∧ FrK A.length A A' ∧ e = [(0,.slice (sEs s)),(3,.own A.length),(4,.int .i64 (0 : Nat))]) (fun e _=>0) ?_ ?_
    · simp only [zW,zX,zD,builtinA,isLeaf,const1,ustrA,simprocAttr,ti3,ti4,ti36,ti50,ti69,ti135,ca87,ca88,ca89,cf,Tryz.results23]
      refine ⟨⟨?_,by simp⟩,FrK.app _ _ _⟩
      rw [Abs.getD_append_right (Nat.le_refl _),Nat.sub_self,hz]; rfl
    · rintro e A' ⟨hfs,hfr,rfl⟩
      by_cases hlt : 0 < s.length
      · have d1 : decide ((0 : Int) < (s.length : Int)) = true:=decide_eq_true (by omega)
        simp only [zW,zX,zD,builtinA,isLeaf,const1,ustrA,simprocAttr,ti3,ti4,ti36,ti50,ti69,ti135,ca87,ca88,ca89,cf,Tryz.results23,sEs_length,d1]
        refine callK_intro (by simp only [zW,zX,zD,builtinA,isLeaf,const1,ustrA,simprocAttr,Option.map_some]; rfl) (hsv _) ?_ rfl; rintro v A' ⟨rfl,rfl⟩
        simp only [zW,zX,zD,builtinA,isLeaf,const1,ustrA,simprocAttr,ti3,ti4,ti36,ti50,ti69,ti135,ca87,ca88,ca89,cf,Tryz.results23]
        refine callK_intro (fz fl A' hfs) (spec_l2Letters fl hz26 _) ?_ rfl
        rintro r A2 hr
        simp only [zW,zX,zD,builtinA,isLeaf,const1,ustrA,simprocAttr,ti3,ti4,ti36,ti50,ti69,ti135,ca87,ca88,ca89,cf,Tryz.results23]
        exact hend A' hfs hfr r A2 hr
      · have d1 : decide ((0 : Int) < (s.length : Int)) = false:=decide_eq_false (by omega)
        simp only [zW,zX,zD,builtinA,isLeaf,const1,ustrA,simprocAttr,ti3,ti4,ti36,ti50,ti69,ti135,ca87,ca88,ca89,cf,Tryz.results23,sEs_length,d1]
        refine callK_intro (fz fl A' hfs) (spec_l2Letters fl hz26 _) ?_ rfl
        rintro r A2 hr
        simp only [zW,zX,zD,builtinA,isLeaf,const1,ustrA,simprocAttr,ti3,ti4,ti36,ti50,ti69,ti135,ca87,ca88,ca89,cf,Tryz.results23]
        exact hend A' hfs hfr r A2 hr
  | true =>
    rw [hsb] at hsv
    obtain ⟨ys,h8,hrd,hord⟩:=rd_yes hsb
    have hme:=mods_eq (ms:=mdIs ys) (ns:=(nmIs ys).map Prod.fst) (mdIs_of hrd).2 (nmIs_mem ys)
    have hl26 : ∀ qs,(setFs (List.replicate 26 false) qs).length = 26:=fun qs=>by rw [setFs_len,hz26]
    have hend : ∀ A',FS A.length (setFs (List.replicate 26 false) ((nmIs ys).map Prod.fst)) A' → FrK A.length A A' → ∀ r A2,NsNew (A'.set A.length (.row 1 (bRows (setFs (List.replicate 26 false) ((nmIs ys).map Prod.fst))) (bRows (setFs (List.replicate 26 false) ((nmIs ys).map Prod.fst))).length)) (letters (setFs (List.replicate 26 false) ((nmIs ys).map Prod.fst)) 26) r A2 → ∃ l,MdIs s l ∧ NsNew A l r A2:=fun A' h1 h2 r A2 h=>⟨_,.inl ⟨ys,hrd,h8,hord,rfl⟩,fin _ A' (hl26 _) h1 h2 _ hme r A2 (by rw [hme]; exact h)⟩
    have hs0 : setFs (List.replicate 26 false) ((nmIs (ys.take 0)).map Prod.fst) = List.replicate 26 false:=rfl
    generalize List.replicate 26 false = fl at *
    refine acalls_enterK (cf:=cf 25 [0,2,3,4,13]) foll Tryz.func23 Tryz.ntmps23 (by simp [cf]) ?_
    simp only [Tryz.f23,EnterK_some,zW,zX,zD,builtinA,isLeaf,const1,ustrA,simprocAttr,ti3,ti4,ti36,ti50,ti69,ti135,ca87,ca88,ca89,cf,Tryz.results23]
    refine aloop_intro [0,3,4] (fun e A'=>∃ i,i ≤ s.length ∧ FS A.length (setFs fl ((nmIs (ys.take i)).map Prod.fst)) A' ∧ FrK A.length A A' ∧ e = [(0,.slice (sEs s)),(3,.own A.length),(4,.int .i64 (i : Nat))]) (fun e _=>s.length - (intOf (Abs.look 4 e)).toNat) ?_ ?_
    · simp only [zW,zX,zD,builtinA,isLeaf,const1,ustrA,simprocAttr,ti3,ti4,ti36,ti50,ti69,ti135,ca87,ca88,ca89,cf,Tryz.results23]
      refine ⟨0,by omega,⟨?_,by simp⟩,FrK.app _ _ _,rfl⟩
      rw [hs0,Abs.getD_append_right (Nat.le_refl _),Nat.sub_self,hz]; rfl
    · rintro e A' ⟨i,hi,hfs,hfr,rfl⟩
      by_cases hlt : i < s.length
      · have d1 : decide ((i : Int) < (s.length : Int)) = true:=decide_eq_true (by omega)
        have pi : 0 ≤ (i : Int) ∧ (i : Int) < (s.length : Int):=by omega
        have hg:=sEs_getD hlt
        have hi1 : IntKind.i64.wrap ((i : Int) + 1) = ((i + 1 : Nat) : Int):=by rw [wrap64 (by omega) (by omega)]; rfl
        have htk:=nmIs_take (show i < ys.length by rw [hrd.1]; exact hlt)
        have hit:=(hrd.2 i hlt).2
        have hlm:=l2Mods_item hit A.length _ (hl26 _) A' hfs
        generalize s.getD i si0 = x at *
        generalize ys.getD i vi0 = y at *
        have hl4:=enc_length x.typ
        have ht4:=enc_take x.typ
        have hf4:=fun A=>frzL_enc x.typ A
        rw [sE] at hg
        generalize enc x.typ = tm at *
        simp only [zW,zX,zD,builtinA,isLeaf,const1,ustrA,simprocAttr,ti3,ti4,ti36,ti50,ti69,ti135,ca87,ca88,ca89,cf,Tryz.results23,sEs_length,d1]
        refine callK_intro (by simp only [zW,zX,zD,builtinA,isLeaf,const1,ustrA,simprocAttr,Option.map_some]; rfl) (hsv _) ?_ rfl; rintro v A' ⟨rfl,rfl⟩
        simp only [zW,zX,zD,builtinA,isLeaf,const1,ustrA,simprocAttr,ti3,ti4,ti36,ti50,ti69,ti135,ca87,ca88,ca89,cf,Tryz.results23,sEs_length,hg,hl4,ht4]
        refine ⟨pi,callO_intro hlm ?_⟩
        rintro r A2 ⟨rfl,h1,h2⟩
        simp only [zW,zX,zD,builtinA,isLeaf,const1,ustrA,simprocAttr,ti3,ti4,ti36,ti50,ti69,ti135,ca87,ca88,ca89,cf,Tryz.results23,hi1,LoopK_eq]
        refine ⟨⟨i + 1,by omega,?_,hfr.trans h2,rfl⟩,by simp only [intOf]; omega⟩
        rw [htk,List.map_append,setFs,List.foldl_append]
        exact h1
      · have d1 : decide ((i : Int) < (s.length : Int)) = false:=decide_eq_false (by omega)
        have e : ys.take i = ys:=List.take_of_length_le (by rw [hrd.1]; omega)
        rw [e] at hfs
        simp only [zW,zX,zD,builtinA,isLeaf,const1,ustrA,simprocAttr,ti3,ti4,ti36,ti50,ti69,ti135,ca87,ca88,ca89,cf,Tryz.results23,sEs_length,d1]
        refine callK_intro (fz _ A' hfs) (spec_l2Letters _ (hl26 _) _) ?_ rfl
        rintro r A2 hr
        simp only [zW,zX,zD,builtinA,isLeaf,const1,ustrA,simprocAttr,ti3,ti4,ti36,ti50,ti69,ti135,ca87,ca88,ca89,cf,Tryz.results23]
        exact hend A' hfs hfr r A2 hr
end Go.Proofs.YtnjdbgiincliaaaGreat
/- Types that are owned: their lists of kids lie in boxes. -/
set_option linter.unusedVariables false
set_option linter.unusedSimpArgs false
namespace Go.Proofs.YtnjdbgiincliaaaGreat
open Go.Abs
mutual
def OwnT (A : List Box) : Ty → List AV → List Nat → Prop
  | .mk k m n ks,r,S=>∃ v,r = [.int .i64 k,.str m,.str n,v] ∧ ((v = .nils ∧ ks = [] ∧ S = []) ∨ (v = .slice [] ∧ ks = [] ∧ S = []) ∨ ∃ i rows S',v = .own i ∧ S = i :: S' ∧ A.getD i .dead = .gr none 4 rows ∧ OwnR A ks rows S')
def OwnR (A : List Box) : List Ty → List (List AV) → List Nat → Prop
  | [],rows,S=>rows = [] ∧ S = []
  | t :: ks,rows,S=>∃ r rows' S1 S2,rows = r :: rows' ∧ S = S1 ++ S2 ∧ OwnT A t r S1 ∧ OwnR A ks rows' S2
end
def OwnK (A : List Box) (ks : List Ty) (v : AV) (S : List Nat) : Prop :=
  (v = .nils ∧ ks = [] ∧ S = []) ∨ (v = .slice [] ∧ ks = [] ∧ S = []) ∨ ∃ i rows S',v = .own i ∧ S = i :: S' ∧ A.getD i .dead = .gr none 4 rows ∧ OwnR A ks rows S'
theorem ownT_mk {A : List Box} {k : Int} {m n : List UInt8} {ks : List Ty} {r : List AV} {S : List Nat} : OwnT A (.mk k m n ks) r S ↔ ∃ v,r = [.int .i64 k,.str m,.str n,v] ∧ OwnK A ks v S:=by
  rw [OwnT]; rfl
mutual
theorem OwnT.frame {A A' : List Box} : ∀ {t : Ty} {r : List AV} {S : List Nat},OwnT A t r S → (∀ i ∈ S,A'.getD i .dead = A.getD i .dead) → OwnT A' t r S
  | .mk k m n ks,r,S,h,hf=>by
    rw [OwnT] at h ⊢
    obtain ⟨v,hr,h⟩:=h
    refine ⟨v,hr,?_⟩
    rcases h with h | h | ⟨i,rows,S',h1,h2,h3,h4⟩
    · exact .inl h
    · exact .inr (.inl h)
    · subst h2
      exact .inr (.inr ⟨i,rows,S',h1,rfl,by rw [hf i (by simp)]; exact h3,OwnR.frame h4 fun j hj=>hf j (by simp [hj])⟩)
theorem OwnR.frame {A A' : List Box} : ∀ {ks : List Ty} {rows : List (List AV)} {S : List Nat},OwnR A ks rows S → (∀ i ∈ S,A'.getD i .dead = A.getD i .dead) → OwnR A' ks rows S
  | [],rows,S,h,hf=>by rw [OwnR] at h ⊢; exact h
  | t :: ks,rows,S,h,hf=>by
    rw [OwnR] at h ⊢
    obtain ⟨r,rows',S1,S2,h1,h2,h3,h4⟩:=h
    subst h2
    exact ⟨r,rows',S1,S2,h1,rfl,OwnT.frame h3 fun j hj=>hf j (by simp [hj]),OwnR.frame h4 fun j hj=>hf j (by simp [hj])⟩
end
theorem OwnK.frame {A A' : List Box} {ks : List Ty} {v : AV} {S : List Nat} (h : OwnK A ks v S) (hf : ∀ i ∈ S,A'.getD i .dead = A.getD i .dead) : OwnK A' ks v S:=by
  rcases h with h | h | ⟨i,rows,S',h1,h2,h3,h4⟩
  · exact .inl h
  · exact .inr (.inl h)
  · subst h2
    exact .inr (.inr ⟨i,rows,S',h1,rfl,by rw [hf i (by simp)]; exact h3,h4.frame fun j hj=>hf j (by simp [hj])⟩)
theorem OwnR.length {A : List Box} : ∀ {ks : List Ty} {rows : List (List AV)} {S : List Nat},OwnR A ks rows S → rows.length = ks.length
  | [],rows,S,h=>by rw [OwnR] at h; rw [h.1]; rfl
  | t :: ks,rows,S,h=>by
    rw [OwnR] at h
    obtain ⟨r,rows',S1,S2,h1,h2,h3,h4⟩:=h
    subst h1
    simp [OwnR.length h4]
theorem live_lt {A : List Box} {i : Nat} {b : Box} (h : A.getD i .dead = b) (hb : b ≠ .dead) : i < A.length:=by
  rcases Nat.lt_or_ge i A.length with hh | hh
  · exact hh
  · simp [List.getD,Nat.not_lt.2 hh] at h; exact absurd h.symm hb
mutual
theorem OwnT.low {A : List Box} : ∀ {t : Ty} {r : List AV} {S : List Nat},OwnT A t r S → ∀ i ∈ S,i < A.length
  | .mk k m n ks,r,S,h=>by
    rw [OwnT] at h
    obtain ⟨v,hr,h⟩:=h
    rcases h with ⟨_,_,rfl⟩ | ⟨_,_,rfl⟩ | ⟨i,rows,S',h1,rfl,h3,h4⟩
    · simp
    · simp
    · intro j hj
      rcases List.mem_cons.1 hj with rfl | hj
      · exact live_lt h3 (by simp)
      · exact OwnR.low h4 j hj
theorem OwnR.low {A : List Box} : ∀ {ks : List Ty} {rows : List (List AV)} {S : List Nat},OwnR A ks rows S → ∀ i ∈ S,i < A.length
  | [],rows,S,h=>by rw [OwnR] at h; rw [h.2]; simp
  | t :: ks,rows,S,h=>by
    rw [OwnR] at h
    obtain ⟨r,rows',S1,S2,h1,rfl,h3,h4⟩:=h
    intro j hj
    rcases List.mem_append.1 hj with hj | hj
    · exact OwnT.low h3 j hj
    · exact OwnR.low h4 j hj
end
theorem OwnK.low {A : List Box} {ks : List Ty} {v : AV} {S : List Nat} (h : OwnK A ks v S) : ∀ i ∈ S,i < A.length:=by
  rcases h with ⟨_,_,rfl⟩ | ⟨_,_,rfl⟩ | ⟨i,rows,S',h1,rfl,h3,h4⟩
  · simp
  · simp
  · intro j hj
    rcases List.mem_cons.1 hj with rfl | hj
    · exact live_lt h3 (by simp)
    · exact h4.low j hj
theorem enc4 (k : Int) (m n : List UInt8) (ks : List Ty) : enc (.mk k m n ks) = [.int .i64 k,.str m,.str n,.slice (encs ks)]:=by rw [enc]
theorem rows_view {A : List Box} {i : Nat} {rows : List (List AV)} {ks : List Ty} (h : A.getD i .dead = .gr none 4 rows) (hl : rows.length = ks.length)
    (hv : ∀ k,k < rows.length → ∀ j,j < 4 → View A ((rows.getD k []).getD j .bot) ((enc (ks.getD k ty0)).getD j .bot)) : View A (.own i) (.slice (encs ks)):=by
  refine .gr i 4 none rows (encs ks) h (by rw [encs_length,hl]) (fun r hr=>?_) fun k j hk hj=>?_
  · rw [encs_map] at hr
    obtain ⟨t,_,rfl⟩:=List.mem_map.1 hr
    exact ⟨enc_length t,enc_leaf t⟩
  · unfold Abs.rowAt
    rw [encs_getD (by omega)]
    exact hv k hk j hj
mutual
theorem OwnT.view {A : List Box} : ∀ {t : Ty} {r : List AV} {S : List Nat},OwnT A t r S → r.length = 4 ∧ ∀ j,j < 4 → View A (r.getD j .bot) ((enc t).getD j .bot)
  | .mk k m n ks,r,S,h=>by
    rw [OwnT] at h
    obtain ⟨v,rfl,h⟩:=h
    have hk : View A v (.slice (encs ks)):=by
      rcases h with ⟨rfl,rfl,_⟩ | ⟨rfl,rfl,_⟩ | ⟨i,rows,S',rfl,_,h3,h4⟩
      · exact .nils
      · exact .leaf _ rfl
      · exact rows_view h3 h4.length (OwnR.view h4)
    refine ⟨rfl,fun j hj=>?_⟩
    rw [enc4]
    match j,hj with
    | 0,_=>exact .leaf _ rfl
    | 1,_=>exact .leaf _ rfl
    | 2,_=>exact .leaf _ rfl
    | 3,_=>exact hk
theorem OwnR.view {A : List Box} : ∀ {ks : List Ty} {rows : List (List AV)} {S : List Nat},OwnR A ks rows S → ∀ k,k < rows.length → ∀ j,j < 4 → View A ((rows.getD k []).getD j .bot) ((enc (ks.getD k ty0)).getD j .bot)
  | [],rows,S,h=>by rw [OwnR] at h; rw [h.1]; intro k hk; simp at hk
  | t :: ks,rows,S,h=>by
    rw [OwnR] at h
    obtain ⟨r,rows',S1,S2,rfl,h2,h3,h4⟩:=h
    intro k hk j hj
    cases k with
    | zero=>exact (OwnT.view h3).2 j hj
    | succ k =>
      have:=OwnR.view h4 k (by simpa using hk) j hj
      simpa using this
end
theorem OwnK.view {A : List Box} {ks : List Ty} {v : AV} {S : List Nat} (h : OwnK A ks v S) : View A v (.slice (encs ks)):=by
  rcases h with ⟨rfl,rfl,_⟩ | ⟨rfl,rfl,_⟩ | ⟨i,rows,S',rfl,_,h3,h4⟩
  · exact .nils
  · exact .leaf _ rfl
  · exact rows_view h3 h4.length h4.view
end Go.Proofs.YtnjdbgiincliaaaGreat
/- Marks that the laws write into what is owned. -/
set_option linter.unusedVariables false
set_option linter.unusedSimpArgs false
namespace Go.Proofs.YtnjdbgiincliaaaGreat
open Go.Abs
def dig (k : Nat) : UInt8:=UInt8.ofNat (48 + k % 10)
def digs (k : Nat) (acc : List UInt8) : List UInt8:=if k = 0 then acc else digs (k / 10) (dig k :: acc)
termination_by k
decreasing_by omega
def mtx (k : Int) : List UInt8:=if k ≤ 0 then [109,48] else 109 :: digs k.toNat []
theorem dig_eq (k : Nat) : Abs.byteOf [.int .u8 (IntKind.u8.wrap (48 + (k : Int).tmod 10))] = dig k ∧ Abs.isByte [.int .u8 (IntKind.u8.wrap (48 + (k : Int).tmod 10))] = true:=by
  have h1 : (k : Int).tmod 10 = ((k % 10 : Nat) : Int):=by
    rw [Int.tmod_eq_emod_of_nonneg (by omega)]; omega
  have h2 : IntKind.u8.wrap (48 + ((k % 10 : Nat) : Int)) = ((48 + k % 10 : Nat) : Int):=by
    simp [IntKind.wrap,IntKind.signed,IntKind.bits]
    omega
  rw [h1,h2]
  exact ⟨rfl,rfl⟩
set_option maxRecDepth 100000 in
theorem laws_markText (k : Int) (hk : k ≤ 2 ^ 60) (A : List Box) : ACalls Tryz.prog 96 [.int .i64 k] A (fun r A'=>r = .str (mtx k) ∧ A' = A):=by
  refine acalls_enter (cf:=cf 20 [0,2,3,5,7]) foll Tryz.func96 Tryz.ntmps96 (by simp [cf]) ?_
  simp only [Tryz.f96,EnterK_some,zW,zX,zD,builtinA,isLeaf,const1,Nat.reduceAdd,Nat.reduceMul,Nat.reduceSub,Nat.reduceLT,Nat.reduceLeDiff,Nat.reduceEqDiff,Nat.reduceBEq,Nat.reduceBNe,reduceIte,reduceCtorEq,Int.reduceToNat,Int.reduceLT,Int.reduceLE,Int.reduceEq,Int.reduceNe,Int.reduceNeg,ustrA,ti3,ti5,ti9,ti57,cf,Tryz.results96]
  by_cases h0 : k ≤ 0
  · simp only [zW,zX,zD,builtinA,isLeaf,const1,Nat.reduceAdd,Nat.reduceMul,Nat.reduceSub,Nat.reduceLT,Nat.reduceLeDiff,Nat.reduceEqDiff,Nat.reduceBEq,Nat.reduceBNe,reduceIte,reduceCtorEq,Int.reduceToNat,Int.reduceLT,Int.reduceLE,Int.reduceEq,Int.reduceNe,Int.reduceNeg,ustrA,ti3,ti5,ti9,ti57,cf,Tryz.results96,decide_eq_true h0]
    simp [mtx,h0]
  · simp only [zW,zX,zD,builtinA,isLeaf,const1,Nat.reduceAdd,Nat.reduceMul,Nat.reduceSub,Nat.reduceLT,Nat.reduceLeDiff,Nat.reduceEqDiff,Nat.reduceBEq,Nat.reduceBNe,reduceIte,reduceCtorEq,Int.reduceToNat,Int.reduceLT,Int.reduceLE,Int.reduceEq,Int.reduceNe,Int.reduceNeg,ustrA,ti3,ti5,ti9,ti57,cf,Tryz.results96,decide_eq_false h0]
    refine aloop_intro [0,3] (fun e A'=>∃ (j : Nat) (acc : List UInt8) (B : List Box),digs j acc = digs k.toNat [] ∧ acc.length + j ≤ k.toNat ∧ e = [(0,.int .i64 j),(3,.str acc)] ∧ A' = A ++ B) (fun e _=>(intOf (Abs.look 0 e)).toNat) ?_ ?_
    · refine ⟨k.toNat,[],[],rfl,by simp,?_,by simp⟩
      simp only [zW,zX,zD,builtinA,isLeaf,const1,Nat.reduceAdd,Nat.reduceMul,Nat.reduceSub,Nat.reduceLT,Nat.reduceLeDiff,Nat.reduceEqDiff,Nat.reduceBEq,Nat.reduceBNe,reduceIte,reduceCtorEq,Int.reduceToNat,Int.reduceLT,Int.reduceLE,Int.reduceEq,Int.reduceNe,Int.reduceNeg,ustrA,ti3,ti5,ti9,ti57,cf,Tryz.results96]
      have : (k.toNat : Int) = k:=by omega
      rw [this]
    · rintro e A' ⟨j,acc,B,hd,hl,rfl,rfl⟩
      simp only [zW,zX,zD,builtinA,isLeaf,const1,Nat.reduceAdd,Nat.reduceMul,Nat.reduceSub,Nat.reduceLT,Nat.reduceLeDiff,Nat.reduceEqDiff,Nat.reduceBEq,Nat.reduceBNe,reduceIte,reduceCtorEq,Int.reduceToNat,Int.reduceLT,Int.reduceLE,Int.reduceEq,Int.reduceNe,Int.reduceNeg,ustrA,ti3,ti5,ti9,ti57,cf,Tryz.results96]
      refine condK_intro (fun h2=>?_) (fun h2=>?_)
      · have hj : 0 < j:=by simpa using h2
        have hm : (j : Int).tmod 10 = ((j % 10 : Nat) : Int):=by rw [Int.tmod_eq_emod_of_nonneg (by omega)]; omega
        have hw : IntKind.i64.wrap (48 + (j : Int).tmod 10) = 48 + (j : Int).tmod 10:=wrap64 (by omega) (by omega)
        have hq : IntKind.i64.wrap ((j : Int).tdiv 10) = ((j / 10 : Nat) : Int):=by
          have : (j : Int).tdiv 10 = ((j / 10 : Nat) : Int):=by rw [Int.tdiv_eq_ediv_of_nonneg (by omega)]; omega
          rw [this,wrap64 (by omega) (by omega)]
        simp only [zW,zX,zD,builtinA,isLeaf,const1,Nat.reduceAdd,Nat.reduceMul,Nat.reduceSub,Nat.reduceLT,Nat.reduceLeDiff,Nat.reduceEqDiff,Nat.reduceBEq,Nat.reduceBNe,reduceIte,reduceCtorEq,Int.reduceToNat,Int.reduceLT,Int.reduceLE,Int.reduceEq,Int.reduceNe,Int.reduceNeg,ustrA,ti3,ti5,ti9,ti57,cf,Tryz.results96,hw,hq,LoopK_eq]
        refine ⟨by simp,by first | (simp; done) | (simp; exact (dig_eq j).2),by omega,⟨j / 10,dig j :: acc,_,?_,by simp; omega,?_,rfl⟩,?_⟩
        · rw [← hd,digs.eq_def j,if_neg (by omega)]
        · rw [← (dig_eq j).1]
          try rfl
        · simp only [intOf]; omega
      · have hj : j = 0:=by simpa using h2
        subst hj
        simp only [zW,zX,zD,builtinA,isLeaf,const1,Nat.reduceAdd,Nat.reduceMul,Nat.reduceSub,Nat.reduceLT,Nat.reduceLeDiff,Nat.reduceEqDiff,Nat.reduceBEq,Nat.reduceBNe,reduceIte,reduceCtorEq,Int.reduceToNat,Int.reduceLT,Int.reduceLE,Int.reduceEq,Int.reduceNe,Int.reduceNeg,ustrA,ti3,ti5,ti9,ti57,cf,Tryz.results96]
        refine ⟨by omega,?_⟩
        rw [mtx,if_neg h0,← hd,digs.eq_def,if_pos rfl]
mutual
def markT : Ty → Int → Ty × Int
  | .mk _ _ _ ks,k=>(.mk k (mtx (k + 1)) (mtx (k + 2)) (markL ks (k + 3)).1,(markL ks (k + 3)).2)
def markL : List Ty → Int → List Ty × Int
  | [],k=>([],k)
  | t :: l,k=>((markT t k).1 :: (markL l (markT t k).2).1,(markL l (markT t k).2).2)
end
mutual
theorem markT_next : ∀ (t : Ty) (k : Int),(markT t k).2 = k + 3 * count t
  | .mk _ _ _ ks,k=>by rw [markT,markL_next ks (k + 3),count]; omega
theorem markL_next : ∀ (l : List Ty) (k : Int),(markL l k).2 = k + 3 * counts l
  | [],k=>by simp [markL,counts]
  | t :: l,k=>by rw [markL,markL_next l,markT_next t,counts]; omega
end
theorem markL_app : ∀ (l l' : List Ty) (k : Int),markL (l ++ l') k = ((markL l k).1 ++ (markL l' (markL l k).2).1,(markL l' (markL l k).2).2)
  | [],l',k=>by simp [markL]
  | t :: l,l',k=>by simp [markL,markL_app l l']
theorem take_snoc {α : Type} (d : α) {l : List α} {p : Nat} (h : p < l.length) : l.take (p + 1) = l.take p ++ [l.getD p d]:=by
  rw [List.take_add_one]; simp [List.getD,h]
theorem markL_snoc {l : List Ty} {p : Nat} (h : p < l.length) (k : Int) : markL (l.take (p + 1)) k = ((markL (l.take p) k).1 ++ [(markT (l.getD p ty0) (markL (l.take p) k).2).1],(markT (l.getD p ty0) (markL (l.take p) k).2).2):=by
  rw [take_snoc ty0 h,markL_app]
  simp [markL]
theorem OwnR.append {A : List Box} : ∀ {k1 k2 : List Ty} {r1 r2 : List (List AV)} {S1 S2 : List Nat},OwnR A k1 r1 S1 → OwnR A k2 r2 S2 → OwnR A (k1 ++ k2) (r1 ++ r2) (S1 ++ S2)
  | [],k2,r1,r2,S1,S2,h1,h2=>by
    rw [OwnR] at h1
    rw [h1.1,h1.2]; exact h2
  | t :: k1,k2,r1,r2,S1,S2,h1,h2=>by
    rw [OwnR] at h1
    obtain ⟨r,r',T1,T2,rfl,rfl,h3,h4⟩:=h1
    rw [List.cons_append,OwnR]
    exact ⟨r,r' ++ r2,T1,T2 ++ S2,by simp,by simp,h3,OwnR.append h4 h2⟩
def MarkS (ks : List Ty) : Prop:=∀ (A : List Box) (v : AV) (S : List Nat) (k : Int),OwnK A ks v S → S.Nodup → 0 ≤ k → k + 3 * counts ks ≤ 2 ^ 50 →
  ACalls Tryz.prog 97 [v,.int .i64 k] A (fun r A'=>r = .int .i64 (markL ks k).2 ∧ A'.length = A.length ∧ OwnK A' (markL ks k).1 v S ∧ ∀ i,i ∉ S → A'.getD i .dead = A.getD i .dead)
set_option maxRecDepth 100000 in
theorem laws_markTypeS (ks : List Ty) (hks : ks.length < 2 ^ 63) (ih : ∀ t ∈ ks,MarkS t.kids) : MarkS ks:=by
  intro A v S k hO hN h0 h1
  rcases hO with ⟨rfl,rfl,rfl⟩ | ⟨rfl,rfl,rfl⟩ | ⟨i,rows,S',rfl,rfl,hb,hR⟩
  · refine acalls_enterK (cf:=cf 43 [0,1,4,5,9]) foll Tryz.func97 Tryz.ntmps97 (by simp [cf]) ?_
    simp only [Tryz.f97,EnterK_some,zW,zX,zD,builtinA,isLeaf,const1,Nat.reduceAdd,Nat.reduceMul,Nat.reduceSub,Nat.reduceLT,Nat.reduceLeDiff,Nat.reduceEqDiff,Nat.reduceBEq,Nat.reduceBNe,reduceIte,reduceCtorEq,Int.reduceToNat,Int.reduceLT,Int.reduceLE,Int.reduceEq,Int.reduceNe,Int.reduceNeg,ustrA,ti3,ti9,ti34,ti36,ca96,ca97,cf,Tryz.results97]
    refine aloop_intro [0,1,5] (fun e A'=>e = [(0,.nils),(1,.int .i64 k),(5,.int .i64 0)] ∧ A' = A) (fun e _=>0) ?_ ?_
    · simp only [zW,zX,zD,builtinA,isLeaf,const1,Nat.reduceAdd,Nat.reduceMul,Nat.reduceSub,Nat.reduceLT,Nat.reduceLeDiff,Nat.reduceEqDiff,Nat.reduceBEq,Nat.reduceBNe,reduceIte,reduceCtorEq,Int.reduceToNat,Int.reduceLT,Int.reduceLE,Int.reduceEq,Int.reduceNe,Int.reduceNeg,ustrA,ti3,ti9,ti34,ti36,ca96,ca97,cf,Tryz.results97]
    · rintro e A' ⟨rfl,rfl⟩
      simp only [zW,zX,zD,builtinA,isLeaf,const1,Nat.reduceAdd,Nat.reduceMul,Nat.reduceSub,Nat.reduceLT,Nat.reduceLeDiff,Nat.reduceEqDiff,Nat.reduceBEq,Nat.reduceBNe,reduceIte,reduceCtorEq,Int.reduceToNat,Int.reduceLT,Int.reduceLE,Int.reduceEq,Int.reduceNe,Int.reduceNeg,ustrA,ti3,ti9,ti34,ti36,ca96,ca97,cf,Tryz.results97]
      refine condK_intro (fun h=>absurd h (by simp)) (fun _=>?_)
      simp only [zW,zX,zD,builtinA,isLeaf,const1,Nat.reduceAdd,Nat.reduceMul,Nat.reduceSub,Nat.reduceLT,Nat.reduceLeDiff,Nat.reduceEqDiff,Nat.reduceBEq,Nat.reduceBNe,reduceIte,reduceCtorEq,Int.reduceToNat,Int.reduceLT,Int.reduceLE,Int.reduceEq,Int.reduceNe,Int.reduceNeg,ustrA,ti3,ti9,ti34,ti36,ca96,ca97,cf,Tryz.results97]
      exact ⟨by simp [markL],.inl ⟨rfl,by simp [markL],rfl⟩,fun _ _=>trivial⟩
  · refine acalls_enterK (cf:=cf 43 [0,1,4,5,9]) foll Tryz.func97 Tryz.ntmps97 (by simp [cf]) ?_
    simp only [Tryz.f97,EnterK_some,zW,zX,zD,builtinA,isLeaf,const1,Nat.reduceAdd,Nat.reduceMul,Nat.reduceSub,Nat.reduceLT,Nat.reduceLeDiff,Nat.reduceEqDiff,Nat.reduceBEq,Nat.reduceBNe,reduceIte,reduceCtorEq,Int.reduceToNat,Int.reduceLT,Int.reduceLE,Int.reduceEq,Int.reduceNe,Int.reduceNeg,ustrA,ti3,ti9,ti34,ti36,ca96,ca97,cf,Tryz.results97]
    refine aloop_intro [0,1,5] (fun e A'=>e = [(0,.slice []),(1,.int .i64 k),(5,.int .i64 0)] ∧ A' = A) (fun e _=>0) ?_ ?_
    · simp only [zW,zX,zD,builtinA,isLeaf,const1,Nat.reduceAdd,Nat.reduceMul,Nat.reduceSub,Nat.reduceLT,Nat.reduceLeDiff,Nat.reduceEqDiff,Nat.reduceBEq,Nat.reduceBNe,reduceIte,reduceCtorEq,Int.reduceToNat,Int.reduceLT,Int.reduceLE,Int.reduceEq,Int.reduceNe,Int.reduceNeg,ustrA,ti3,ti9,ti34,ti36,ca96,ca97,cf,Tryz.results97]
    · rintro e A' ⟨rfl,rfl⟩
      simp only [zW,zX,zD,builtinA,isLeaf,const1,Nat.reduceAdd,Nat.reduceMul,Nat.reduceSub,Nat.reduceLT,Nat.reduceLeDiff,Nat.reduceEqDiff,Nat.reduceBEq,Nat.reduceBNe,reduceIte,reduceCtorEq,Int.reduceToNat,Int.reduceLT,Int.reduceLE,Int.reduceEq,Int.reduceNe,Int.reduceNeg,ustrA,ti3,ti9,ti34,ti36,ca96,ca97,cf,Tryz.results97]
      refine condK_intro (fun h=>absurd h (by simp)) (fun _=>?_)
      simp only [zW,zX,zD,builtinA,isLeaf,const1,Nat.reduceAdd,Nat.reduceMul,Nat.reduceSub,Nat.reduceLT,Nat.reduceLeDiff,Nat.reduceEqDiff,Nat.reduceBEq,Nat.reduceBNe,reduceIte,reduceCtorEq,Int.reduceToNat,Int.reduceLT,Int.reduceLE,Int.reduceEq,Int.reduceNe,Int.reduceNeg,ustrA,ti3,ti9,ti34,ti36,ca96,ca97,cf,Tryz.results97]
      exact ⟨by simp [markL],.inr (.inl ⟨rfl,by simp [markL],rfl⟩),fun _ _=>trivial⟩
  · have hil:=live_lt hb (by simp)
    have hlen:=hR.length
    refine acalls_enterK (cf:=cf 43 [0,1,4,5,9]) foll Tryz.func97 Tryz.ntmps97 (by simp [cf]) ?_
    simp only [Tryz.f97,EnterK_some,zW,zX,zD,builtinA,isLeaf,const1,Nat.reduceAdd,Nat.reduceMul,Nat.reduceSub,Nat.reduceLT,Nat.reduceLeDiff,Nat.reduceEqDiff,Nat.reduceBEq,Nat.reduceBNe,reduceIte,reduceCtorEq,Int.reduceToNat,Int.reduceLT,Int.reduceLE,Int.reduceEq,Int.reduceNe,Int.reduceNeg,ustrA,ti3,ti9,ti34,ti36,ca96,ca97,cf,Tryz.results97]
    refine aloop_intro [0,1,5] (fun e A'=>∃ (p : Nat) (rl rr : List (List AV)) (SL SR : List Nat),p ≤ ks.length ∧ e = [(0,.own i),(1,.int .i64 (markL (ks.take p) k).2),(5,.int .i64 p)] ∧ A'.length = A.length ∧ A'.getD i .dead = .gr none 4 (rl ++ rr) ∧ rl.length = p ∧
      OwnR A' (markL (ks.take p) k).1 rl SL ∧ OwnR A' (ks.drop p) rr SR ∧ S' = SL ++ SR ∧ ∀ j,j ∉ i :: S' → A'.getD j .dead = A.getD j .dead) (fun e _=>ks.length - (intOf (Abs.look 5 e)).toNat) ?_ ?_
    · refine ⟨0,[],rows,[],S',by omega,?_,rfl,hb,rfl,by simp [markL,OwnR],by simpa using hR,rfl,fun _ _=>rfl⟩
      simp only [zW,zX,zD,builtinA,isLeaf,const1,Nat.reduceAdd,Nat.reduceMul,Nat.reduceSub,Nat.reduceLT,Nat.reduceLeDiff,Nat.reduceEqDiff,Nat.reduceBEq,Nat.reduceBNe,reduceIte,reduceCtorEq,Int.reduceToNat,Int.reduceLT,Int.reduceLE,Int.reduceEq,Int.reduceNe,Int.reduceNeg,ustrA,ti3,ti9,ti34,ti36,ca96,ca97,cf,Tryz.results97]
      simp [markL]
    · rintro e A' ⟨p,rl,rr,SL,SR,hp,rfl,hl,hb',hrl,hL,hRr,hS,hfr⟩
      have hrr:=hRr.length
      have hrows : rl.length + rr.length = ks.length:=by simp at hrr; omega
      simp only [zW,zX,zD,builtinA,isLeaf,const1,Nat.reduceAdd,Nat.reduceMul,Nat.reduceSub,Nat.reduceLT,Nat.reduceLeDiff,Nat.reduceEqDiff,Nat.reduceBEq,Nat.reduceBNe,reduceIte,reduceCtorEq,Int.reduceToNat,Int.reduceLT,Int.reduceLE,Int.reduceEq,Int.reduceNe,Int.reduceNeg,ustrA,ti3,ti9,ti34,ti36,ca96,ca97,cf,Tryz.results97,hb',hrows]
      refine condK_intro (fun h2=>?_) (fun h2=>?_)
      · have hp2 : p < ks.length:=by simpa using h2
        have hne : i ∉ S':=(List.nodup_cons.1 hN).1
        have hnd : (SL ++ SR).Nodup:=by rw [← hS]; exact (List.nodup_cons.1 hN).2
        have hdr : ks.drop p = ks.getD p ty0 :: ks.drop (p + 1):=by
          have : ks.getD p ty0 = ks[p]:=by simp [List.getD,hp2]
          rw [this,List.getElem_cons_drop hp2]
        rw [hdr,OwnR] at hRr
        obtain ⟨r,rr',S1,S2,rfl,rfl,hT,hR'⟩:=hRr
        have hmem:=getD_mem hp2
        obtain ⟨kk,m,n,kks,ht⟩ : ∃ kk m n kks,ks.getD p ty0 = .mk kk m n kks:=by cases ks.getD p ty0; exact ⟨_,_,_,_,rfl⟩
        rw [ht,ownT_mk] at hT
        obtain ⟨vk,rfl,hK⟩:=hT
        have hil' : i < A'.length:=by omega
        have hmk:=markL_next (ks.take p) k
        have hct:=counts_take hp2
        have hcl:=counts_le ks (p + 1)
        rw [ht] at hct
        simp only [count] at hct
        generalize hk1 : (markL (ks.take p) k).2 = k1 at *
        have b0 : 0 ≤ k1:=by omega
        have b1 : k1 + 3 + 3 * counts kks ≤ 2 ^ 50:=by omega
        have w1 : IntKind.i64.wrap (k1 + 1) = k1 + 1:=wrap64 (by omega) (by omega)
        have w2 : IntKind.i64.wrap (k1 + 1 + 1) = k1 + 2:=by rw [wrap64 (by omega) (by omega)]; omega
        have w3 : IntKind.i64.wrap (k1 + 2 + 1) = k1 + 3:=by rw [wrap64 (by omega) (by omega)]; omega
        have hi1 : IntKind.i64.wrap ((p : Int) + 1) = ((p + 1 : Nat) : Int):=by rw [wrap64 (by omega) (by omega)]; rfl
        have hrp : (p : Int) < ((rl ++ [AV.int .i64 kk,.str m,.str n,vk] :: rr').length : Int):=by simp; omega
        have hg : ∀ x,((rl ++ x :: rr').getD p []) = x:=fun x=>by simp [List.getD,List.getElem?_append_right,hrl]
        have hst : ∀ x y,(rl ++ x :: rr').set p y = rl ++ y :: rr':=fun x y=>by rw [List.set_append_right _ _ (by omega),hrl,Nat.sub_self]; rfl
        have hgs : ∀ X,(A'.set i X).getD i .dead = X:=fun X=>getD_set1 hil'
        have hpl : p < rl.length + (rr'.length + 1):=by simp at hrows; omega
        have hpi : (p : Int) < ((rl.length + (rr'.length + 1) : Nat) : Int):=by omega
        simp only [zW,zX,zD,builtinA,isLeaf,const1,Nat.reduceAdd,Nat.reduceMul,Nat.reduceSub,Nat.reduceLT,Nat.reduceLeDiff,Nat.reduceEqDiff,Nat.reduceBEq,Nat.reduceBNe,reduceIte,reduceCtorEq,Int.reduceToNat,Int.reduceLT,Int.reduceLE,Int.reduceEq,Int.reduceNe,Int.reduceNeg,ustrA,ti3,ti9,ti34,ti36,ca96,ca97,cf,Tryz.results97,hb',hg,hst,hgs,List.set_set,w1]
        refine ⟨⟨by omega,hpi⟩,⟨hpl,by simp [isElem,isLeaf]⟩,?_⟩
        refine callK_intro (by simp only [zW,zX,zD,builtinA,isLeaf,const1,Nat.reduceAdd,Nat.reduceMul,Nat.reduceSub,Nat.reduceLT,Nat.reduceLeDiff,Nat.reduceEqDiff,Nat.reduceBEq,Nat.reduceBNe,reduceIte,reduceCtorEq,Int.reduceToNat,Int.reduceLT,Int.reduceLE,Int.reduceEq,Int.reduceNe,Int.reduceNeg,ustrA]; rfl) (laws_markText (k1 + 1) (by omega) _) ?_ rfl; rintro v A' ⟨rfl,rfl⟩
        simp only [zW,zX,zD,builtinA,isLeaf,const1,Nat.reduceAdd,Nat.reduceMul,Nat.reduceSub,Nat.reduceLT,Nat.reduceLeDiff,Nat.reduceEqDiff,Nat.reduceBEq,Nat.reduceBNe,reduceIte,reduceCtorEq,Int.reduceToNat,Int.reduceLT,Int.reduceLE,Int.reduceEq,Int.reduceNe,Int.reduceNeg,ustrA,ti3,ti9,ti34,ti36,ca96,ca97,cf,Tryz.results97,hb',hg,hst,hgs,List.set_set,w2]
        refine ⟨⟨by omega,hpi⟩,⟨hpl,by simp [isElem,isLeaf]⟩,?_⟩
        refine callK_intro (by simp only [zW,zX,zD,builtinA,isLeaf,const1,Nat.reduceAdd,Nat.reduceMul,Nat.reduceSub,Nat.reduceLT,Nat.reduceLeDiff,Nat.reduceEqDiff,Nat.reduceBEq,Nat.reduceBNe,reduceIte,reduceCtorEq,Int.reduceToNat,Int.reduceLT,Int.reduceLE,Int.reduceEq,Int.reduceNe,Int.reduceNeg,ustrA]; rfl) (laws_markText (k1 + 2) (by omega) _) ?_ rfl; rintro v A' ⟨rfl,rfl⟩
        simp only [zW,zX,zD,builtinA,isLeaf,const1,Nat.reduceAdd,Nat.reduceMul,Nat.reduceSub,Nat.reduceLT,Nat.reduceLeDiff,Nat.reduceEqDiff,Nat.reduceBEq,Nat.reduceBNe,reduceIte,reduceCtorEq,Int.reduceToNat,Int.reduceLT,Int.reduceLE,Int.reduceEq,Int.reduceNe,Int.reduceNeg,ustrA,ti3,ti9,ti34,ti36,ca96,ca97,cf,Tryz.results97,hb',hg,hst,hgs,List.set_set,w3]
        refine ⟨⟨by omega,hpi⟩,⟨hpl,by simp [isElem,isLeaf]⟩,⟨by omega,hpi⟩,?_⟩
        have hiS1 : i ∉ S1:=fun h=>hne (by rw [hS]; simp [h])
        have hm:=ih _ hmem
        rw [ht] at hm
        refine callO_intro (hm _ vk S1 (k1 + 3) (hK.frame fun j hj=>by rw [getD_set_ne' (fun e=>hiS1 (by rw [e]; exact hj))]) ((List.nodup_append.1 (List.nodup_append.1 hnd).2.1).1) (by omega) b1) ?_
        rintro r A3 ⟨rfl,hl3,hK3,hf3⟩
        simp only [zW,zX,zD,builtinA,isLeaf,const1,Nat.reduceAdd,Nat.reduceMul,Nat.reduceSub,Nat.reduceLT,Nat.reduceLeDiff,Nat.reduceEqDiff,Nat.reduceBEq,Nat.reduceBNe,reduceIte,reduceCtorEq,Int.reduceToNat,Int.reduceLT,Int.reduceLE,Int.reduceEq,Int.reduceNe,Int.reduceNeg,ustrA,ti3,ti9,ti34,ti36,ca96,ca97,cf,Tryz.results97,hi1,LoopK_eq]
        have hms:=markL_snoc hp2 k
        rw [ht,hk1,markT] at hms
        have hd1:=(List.nodup_append.1 hnd).2.2
        have hd2:=(List.nodup_append.1 (List.nodup_append.1 hnd).2.1).2.2
        have fL : ∀ j ∈ SL,A3.getD j .dead = A'.getD j .dead:=fun j hj=>by
          rw [hf3 j (fun h=>hd1 j hj j (by simp [h]) rfl),getD_set_ne' (fun e=>hne (by rw [hS,e]; simp [hj]))]
        have fR : ∀ j ∈ S2,A3.getD j .dead = A'.getD j .dead:=fun j hj=>by
          rw [hf3 j (fun h=>hd2 j h j hj rfl),getD_set_ne' (fun e=>hne (by rw [hS,e]; simp [hj]))]
        refine ⟨⟨p + 1,rl ++ [[.int .i64 k1,.str (mtx (k1 + 1)),.str (mtx (k1 + 2)),vk]],rr',SL ++ S1,S2,by omega,?_,?_,?_,?_,?_,hR'.frame fR,by rw [hS]; simp,fun j hj=>?_⟩,?_⟩
        · rw [hms]; rfl
        · rw [hl3]; simpa using hl
        · rw [hf3 i hiS1,getD_set_self hil']; simp
        · simp [hrl]
        · rw [hms]
          refine (hL.frame fL).append ?_
          rw [OwnR]
          refine ⟨_,_,S1,[],rfl,by simp,?_,by simp [OwnR]⟩
          rw [ownT_mk]
          exact ⟨vk,rfl,hK3⟩
        · have hj1 : j ≠ i:=fun e=>hj (by simp [e])
          have hj2 : j ∉ S1:=fun h=>hj (by rw [hS]; simp [h])
          rw [hf3 j hj2,getD_set_ne' (Ne.symm hj1)]
          exact hfr j hj
        · simp only [intOf]; omega
      · have hp2 : p = ks.length:=by simp at h2; omega
        subst hp2
        simp only [zW,zX,zD,builtinA,isLeaf,const1,Nat.reduceAdd,Nat.reduceMul,Nat.reduceSub,Nat.reduceLT,Nat.reduceLeDiff,Nat.reduceEqDiff,Nat.reduceBEq,Nat.reduceBNe,reduceIte,reduceCtorEq,Int.reduceToNat,Int.reduceLT,Int.reduceLE,Int.reduceEq,Int.reduceNe,Int.reduceNeg,ustrA,ti3,ti9,ti34,ti36,ca96,ca97,cf,Tryz.results97]
        rw [List.take_length] at hL
        rw [List.drop_length,OwnR] at hRr
        obtain ⟨rfl,rfl⟩:=hRr
        simp only [List.append_nil] at hb' hS
        exact ⟨hl,.inr (.inr ⟨i,rl,S',rfl,rfl,hb',by rw [hS]; exact hL⟩),hfr⟩
theorem markS : ∀ (t : Ty),t.Ok → MarkS t.kids:=by
  intro t
  induction t using Ty.ind with
  | h k m n ks ih =>
    intro hO
    obtain ⟨_,_,h3,h4⟩:=hO
    exact laws_markTypeS ks h3 fun t ht=>ih t ht (h4 t ht)
theorem borrow0 {P : Program} {f : FuncId} {args args' : List AV} {A : List Box} {x : AV} (hv : Views A args args') (hx : ifree x = true) (h : ∀ A,ACalls P f args' A (fun v A'=>v = x ∧ A' = A)) : ACalls P f args A (fun v A'=>v = x ∧ A' = A) :=
  ACalls.borrow hv ((h _).mono fun v A' ⟨h1,h2⟩=>⟨[],by rw [h2,List.append_nil],by rw [h1]; exact hx,by simp,h1,by simp⟩)
end Go.Proofs.YtnjdbgiincliaaaGreat
