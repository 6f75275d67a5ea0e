/- UnRead. -/
import Derived.Test.YtnjdbgiincliaaaGreatK16
import Derived.Test.YtnjdbgiincliaaaGreatAbsW3
/- The program's reading of units. -/
set_option linter.unusedVariables false
set_option linter.unusedSimpArgs false
namespace Go.Proofs.YtnjdbgiincliaaaGreat
open Go.Abs
structure VM where
  name : List UInt8
  sig : List VI
def mE (m : VM) : List AV:=[.str m.name,.slice (vRows m.sig)]
def mRows (ms : List VM) : List (List AV):=ms.map mE
def vm0 : VM:=⟨[],[]⟩
theorem mRows_length (ms : List VM) : (mRows ms).length = ms.length:=by simp [mRows]
theorem mRows_getD {ms : List VM} {i : Nat} (h : i < ms.length) : (mRows ms).getD i [] = mE (ms.getD i vm0):=by simp [mRows,List.getD,h]
def ModOf (x : ImI) (m : VM) : Prop:=m.name = x.name ∧ x.sig.length ≤ 8 ∧ ReadsTo x.sig m.sig ∧ ordB m.sig = true ∧ moduleB x.name = true
noncomputable def impOk (x : ImI) : Bool:=sigB x.sig && moduleB x.name
set_option maxRecDepth 100000 in
theorem impl_readImport (x : ImI) (hs : x.sig.length ≤ 1048576) (ho : ∀ y ∈ x.sig,y.Ok ∧ sz y.typ ≤ 1048576) (A : List Box) : ACalls Tryz.prog 216 [.agg (pE x)] A (fun r A'=>((∃ m,ModOf x m ∧ r = .tuple [.agg (mE m),.bool true]) ∨ (impOk x = false ∧ ∃ c,r = .tuple [.agg [.str x.name,.slice c],.bool false])) ∧ A' = A):=by
  have hrs:=impl_readSig x.sig hs ho
  rw [pE]
  refine acalls_enter (cf:=cf 22 [0,1,2,3,4,5]) foll Tryz.func216 Tryz.ntmps216 (by simp [cf]) ?_
  simp only [Tryz.f216,EnterK_some,zW,zX,zD,builtinA,isLeaf,const1,ustrA,simprocAttr,ti9,ti50,ti69,ti194,ti311,ca38,ca91,cf,Tryz.results216]
  refine callK_intro (by simp only [zW,zX,zD,builtinA,isLeaf,const1,ustrA,simprocAttr,Option.map_some] <;> rfl) (hrs _) ?_ rfl
  rintro r A' ⟨⟨ys,h8,hr,rfl⟩ | ⟨hb,rfl⟩,rfl⟩
  · have hsb:=sigB_reads h8 hr
    cases hob : ordB ys with
    | true =>
      rw [hob] at hsb
      simp only [zW,zX,zD,builtinA,isLeaf,const1,ustrA,simprocAttr,ti9,ti50,ti69,ti194,ti311,ca38,ca91,cf,Tryz.results216]
      refine .inr (drawE_intro [(false,0,0),(false,0,0),(false,0,0),(false,0,0),(false,0,0),(false,0,0),(false,0,0),(false,0,0),(false,0,0),(false,0,1),(true,0,0),(false,1,1)] [A ++ [.cells [.str x.name,.slice (sEs x.sig)],.cells [.str [],.nils]],A ++ [.cells [.str x.name,.slice (sEs x.sig)],.cells [.str x.name,.slice (vRows ys)]]] 1 rfl (by kernel_rfl) (by kernel_rfl) (by kernel_rfl) (by kernel_rfl) (by kernel_rfl) (by kernel_rfl) ?_)
      simp only [zW,zX,zD,builtinA,isLeaf,const1,ustrA,simprocAttr,ti9,ti50,ti69,ti194,ti311,ca38,ca91,cf,Tryz.results216]
      refine callEN_intro (fun A=>by simp only [zW,zX,zD,builtinA,isLeaf,const1,ustrA,simprocAttr,Option.map_some] <;> rfl) (fun A=>impl_ModuleName x.name A) ?_ rfl rfl
      cases hm : moduleB x.name with
      | true =>
        simp only [zW,zX,zD,builtinA,isLeaf,const1,ustrA,simprocAttr,ti9,ti50,ti69,ti194,ti311,ca38,ca91,cf,Tryz.results216]
        exact .inl ⟨⟨x.name,ys⟩,⟨rfl,h8,hr,hob,hm⟩,rfl⟩
      | false =>
        simp only [zW,zX,zD,builtinA,isLeaf,const1,ustrA,simprocAttr,ti9,ti50,ti69,ti194,ti311,ca38,ca91,cf,Tryz.results216]
        exact .inr ⟨by simp [impOk,hm],_,rfl⟩
    | false =>
      rw [hob] at hsb
      simp only [zW,zX,zD,builtinA,isLeaf,const1,ustrA,simprocAttr,ti9,ti50,ti69,ti194,ti311,ca38,ca91,cf,Tryz.results216]
      refine .inr (drawE_intro [(false,0,0),(false,0,0),(false,0,0),(false,0,0),(false,0,0),(false,0,0),(false,0,0),(false,0,0),(false,0,0),(false,0,1),(true,0,0),(false,1,1)] [A ++ [.cells [.str x.name,.slice (sEs x.sig)],.cells [.str [],.nils]],A ++ [.cells [.str x.name,.slice (sEs x.sig)],.cells [.str x.name,.slice (vRows ys)]]] 1 rfl (by kernel_rfl) (by kernel_rfl) (by kernel_rfl) (by kernel_rfl) (by kernel_rfl) (by kernel_rfl) ?_)
      simp only [zW,zX,zD,builtinA,isLeaf,const1,ustrA,simprocAttr,ti9,ti50,ti69,ti194,ti311,ca38,ca91,cf,Tryz.results216]
      exact ⟨skz_of rfl,skz_of rfl,skz_of rfl,.inr ⟨by simp [impOk,hsb],_,rfl⟩⟩
  · simp only [zW,zX,zD,builtinA,isLeaf,const1,ustrA,simprocAttr,ti9,ti50,ti69,ti194,ti311,ca38,ca91,cf,Tryz.results216]
    refine .inr (drawE_intro [(false,0,0),(false,0,0),(false,0,0),(false,0,0),(false,0,0),(false,0,0),(false,0,0),(false,0,0),(false,0,0),(false,0,1),(true,0,0),(false,1,1)] [A ++ [.cells [.str x.name,.slice (sEs x.sig)],.cells [.str [],.nils]],A ++ [.cells [.str x.name,.slice (sEs x.sig)],.cells [.str x.name,.slice ([])]]] 1 rfl (by kernel_rfl) (by kernel_rfl) (by kernel_rfl) (by kernel_rfl) (by kernel_rfl) (by kernel_rfl) ?_)
    simp only [zW,zX,zD,builtinA,isLeaf,const1,ustrA,simprocAttr,ti9,ti50,ti69,ti194,ti311,ca38,ca91,cf,Tryz.results216]
    exact ⟨skz_of rfl,skz_of rfl,skz_of rfl,.inr ⟨by simp [impOk,sigB_bad hb],_,rfl⟩⟩
def ReadsM (s : List ImI) (ms : List VM) : Prop:=ms.length = s.length ∧ ∀ i,i < s.length → ModOf (s.getD i pm0) (ms.getD i vm0)
theorem mE_leaf (m : VM) : ∀ v ∈ mE m,isLeaf v = true:=by simp [mE,isLeaf]
theorem mRows_leaf (ms : List VM) : ∀ r ∈ mRows ms,r.length = 2 ∧ ∀ v ∈ r,isLeaf v = true:=by
  intro r hr
  obtain ⟨y,_,rfl⟩:=List.mem_map.mp hr
  exact ⟨rfl,mE_leaf y⟩
theorem mRow_step {ms : List VM} {n : Nat} (y : VM) (h : ms.length < n) : (mRows ms ++ List.replicate (n - ms.length) [AV.str [],AV.slice []]).set ms.length (mE y ++ List.drop 2 ((mRows ms ++ List.replicate (n - ms.length) [AV.str [],AV.slice []]).getD ms.length [])) = mRows (ms ++ [y]) ++ List.replicate (n - (ms.length + 1)) [AV.str [],AV.slice []]:=by
  obtain ⟨m,rfl⟩ : ∃ m,n = ms.length + (m + 1):=⟨n - ms.length - 1,by omega⟩
  have e1 : ms.length + (m + 1) - ms.length = m + 1:=by omega
  have e2 : ms.length + (m + 1) - (ms.length + 1) = m:=by omega
  rw [e1,e2,List.replicate_succ]
  have hl:=mRows_length ms
  rw [Abs.getD_append_right (by omega),List.set_append_right _ _ (by omega),hl]
  simp [mRows]
set_option maxRecDepth 100000 in
theorem impl_readEachM (n : Nat) (hn : n ≤ 100) (s : List ImI) (hs : s.length ≤ 1048576) (ho : ∀ p ∈ s,p.sig.length ≤ 1048576 ∧ ∀ y ∈ p.sig,y.Ok ∧ sz y.typ ≤ 1048576) (A : List Box) : ACalls Tryz.prog 215 [.slice (pEs s),.int .i64 n,.func (.func 216) [] []] A (fun r A'=>∃ B,A' = A ++ B ∧
    ((∃ ms j,s.length ≤ n ∧ ReadsM s ms ∧ r = .tuple [.own (A.length + j),.bool true] ∧ j < B.length ∧ B.getD j .dead = .row 2 (mRows ms) 0) ∨ ((n < s.length ∨ ∃ x ∈ s,impOk x = false) ∧ r = .tuple [.nils,.bool false]))):=by
  by_cases h8 : s.length ≤ n
  · have d1 : decide ((s.length : Int) > n) = false:=by simp; omega
    have d1' : decide ((n : Int) < (s.length : Int)) = false:=by simp; omega
    refine acalls_enterK (cf:=cf 41 [0,1,2,6,7,8,9,10,11,12,16,20,21,22,23,34]) foll Tryz.func215 Tryz.ntmps215 (by simp [cf]) ?_
    simp only [Tryz.f215,EnterK_some,zW,zX,zD,builtinA,isLeaf,const1,ustrA,simprocAttr,ti3,ti77,ti194,ti197,ti311,cf,Tryz.results215]
    simp only [zW,zX,zD,builtinA,isLeaf,const1,ustrA,simprocAttr,ti3,ti77,ti194,ti197,ti311,cf,Tryz.results215,pEs_length,d1,d1']
    refine ⟨⟨by omega,by omega,by omega⟩,?_⟩
    refine aloop_intro [2,8,20,21,22] (fun e A'=>∃ i ms B,i ≤ s.length ∧ ms.length = i ∧ (∀ k,k < i → ModOf (s.getD k pm0) (ms.getD k vm0)) ∧ e = [(2,.func (.func 216) [] []),(8,.own A.length),(20,.slice (pEs s)),(21,.int .i64 s.length),(22,.int .i64 i)] ∧ A' = A ++ (.row 2 (mRows ms ++ List.replicate (s.length - i) [.str [],.slice []]) 0 :: B)) (fun e _=>s.length - (intOf (Abs.look 22 e)).toNat) ?_ ?_
    · simp only [zW,zX,zD,builtinA,isLeaf,const1,ustrA,simprocAttr,ti3,ti77,ti194,ti197,ti311,cf,Tryz.results215]
      exact ⟨0,[],[],by omega,rfl,fun k hk=>by omega,rfl,by simp [mRows]⟩
    · rintro e A' ⟨i,ms,B,hi,hyl,hq,rfl,rfl⟩
      by_cases hlt : i < s.length
      · have d2 : decide ((i : Int) < (s.length : Int)) = true:=by simp; omega
        have hlt' : 0 ≤ (i : Int) ∧ (i : Int) < (s.length : Int):=by omega
        have hg:=pEs_getD hlt
        have hmem:=pm_mem hlt
        have hi1 : IntKind.i64.wrap ((i : Int) + 1) = ((i + 1 : Nat) : Int):=by rw [wrap64 (by omega) (by omega)]; rfl
        have hri:=fun A=>impl_readImport (s.getD i pm0) (ho _ hmem).1 (ho _ hmem).2 A
        generalize hx : s.getD i pm0 = x at *
        simp only [zW,zX,zD,builtinA,isLeaf,const1,ustrA,simprocAttr,ti3,ti77,ti194,ti197,ti311,cf,Tryz.results215,pEs_length,d2,hg,pE_length,pE_take]
        refine ⟨hlt',?_⟩
        refine wpO_callv _ _ _ _ _ _ _ _ _ _ _ _ _ _ _ ?_
        simp only [zW,zX,zD,builtinA,isLeaf,const1,ustrA,simprocAttr,ti3,ti77,ti194,ti197,ti311,cf,Tryz.results215]
        refine ⟨by kernel_rfl,?_⟩
        refine callK_intro (by simp only [zW,zX,zD,builtinA,isLeaf,const1,ustrA,simprocAttr,frzL_pE,Option.map_some,List.nil_append,List.append_nil]; rfl) (hri _) ?_ rfl
        rintro r A' ⟨h,rfl⟩
        rcases h with ⟨y,hit,rfl⟩ | ⟨hbad,c,rfl⟩
        · have hst:=mRow_step (ms:=ms) (n:=s.length) y (by omega)
          have hlen : (mRows ms).length + (List.replicate (s.length - i) [AV.str [],AV.slice []]).length = s.length:=by simp [mRows_length]; omega
          subst hyl
          have hlen2 : ms.length + (List.replicate (s.length - ms.length) [AV.str [],AV.slice []]).length = s.length:=by simp; omega
          simp only [mE,List.cons_append,List.nil_append] at hst ⊢
          simp only [zW,zX,zD,builtinA,isLeaf,const1,ustrA,simprocAttr,ti3,ti77,ti194,ti197,ti311,cf,Tryz.results215,hlen,hlen2,mRows_length,hst,hi1,LoopK_eq]
          refine ⟨⟨by omega,by omega⟩,⟨by omega,by omega,fun v hv=>mE_leaf y v hv⟩,⟨ms.length + 1,ms ++ [y],_,by omega,by simp,fun k hk=>?_,rfl,rfl⟩,?_⟩
          · rcases Nat.lt_succ_iff_lt_or_eq.mp hk with h | rfl
            · have : (ms ++ [y]).getD k vm0 = ms.getD k vm0:=by simp [List.getD,List.getElem?_append_left h]
              rw [this]
              exact hq k h
            · rw [hx]
              have : (ms ++ [y]).getD ms.length vm0 = y:=by simp [List.getD]
              rw [this]
              exact hit
          · simp only [intOf]; omega
        · simp only [zW,zX,zD,builtinA,isLeaf,const1,ustrA,simprocAttr,ti3,ti77,ti194,ti197,ti311,cf,Tryz.results215]
          exact ⟨_,rfl,.inr (.inr ⟨x,hmem,hbad⟩)⟩
      · have d2 : decide ((i : Int) < (s.length : Int)) = false:=by simp; omega
        have e : ms.length = s.length:=by omega
        subst hyl
        have hz : List.replicate (s.length - ms.length) [AV.str [],AV.slice []] = []:=by rw [e]; simp
        rw [hz,List.append_nil]
        simp only [zW,zX,zD,builtinA,isLeaf,const1,ustrA,simprocAttr,ti3,ti77,ti194,ti197,ti311,cf,Tryz.results215,pEs_length,d2]
        exact ⟨_,rfl,.inl ⟨ms,0,h8,⟨e,fun k hk=>hq k (by omega)⟩,rfl,by simp,rfl⟩⟩
  · have d1 : decide ((s.length : Int) > n) = true:=by simp; omega
    have d1' : decide ((n : Int) < (s.length : Int)) = true:=by simp; omega
    refine acalls_enterK (cf:=cf 41 [0,1,2,6,7,8,9,10,11,12,16,20,21,22,23,34]) foll Tryz.func215 Tryz.ntmps215 (by simp [cf]) ?_
    simp only [Tryz.f215,EnterK_some,zW,zX,zD,builtinA,isLeaf,const1,ustrA,simprocAttr,ti3,ti77,ti194,ti197,ti311,cf,Tryz.results215]
    simp only [zW,zX,zD,builtinA,isLeaf,const1,ustrA,simprocAttr,ti3,ti77,ti194,ti197,ti311,cf,Tryz.results215,pEs_length,d1,d1']
    exact ⟨[],by simp,.inr (.inl (by omega))⟩
def ndB : List (List UInt8) → List (List UInt8) → Bool
  | _,[]=>true
  | set,n :: l=>!decide (n ∈ set) && ndB (set ++ [n]) l
def vmNames (ms : List VM) : List (List UInt8):=ms.map VM.name
theorem vm_drop {l : List VM} {i : Nat} (h : i < l.length) : l.drop i = l.getD i vm0 :: l.drop (i + 1):=by
  have : l.getD i vm0 = l[i]:=by simp [List.getD,h]
  rw [this,List.getElem_cons_drop h]
set_option maxRecDepth 100000 in
theorem impl_namesDiffer (n : List UInt8) (ms : List VM) (hms : ms.length ≤ 1000) (b f : List (List AV)) (A : List Box) : ACalls Tryz.prog 218 [.agg [.str n,.slice (mRows ms),.slice b,.slice f]] A (fun r A'=>r = .bool (ndB [n] (vmNames ms)) ∧ A' = A):=by
  have hcl : ∀ (A' : List Box),A'.take A.length = A → A.length + 1 < A'.length → Outer A A':=fun A' h1 h2=>outer_take h1 (by omega)
  refine acalls_enter (cf:=cf 23 [0,1,2,3,5,11,12,13,14,21]) foll Tryz.func218 Tryz.ntmps218 (by simp [cf]) ?_
  simp only [Tryz.f218,EnterK_some,zW,zX,zD,builtinA,isLeaf,const1,ustrA,simprocAttr,ti3,ti9,ti143,ti197,ti201,ti311,ca244,mi143,cf,Tryz.results218]
  simp only [zW,zX,zD,builtinA,isLeaf,const1,ustrA,simprocAttr,ti3,ti9,ti143,ti197,ti201,ti311,ca244,mi143,cf,Tryz.results218,wpO_insert,findS,updS]
  refine aloop_intro [3,11,12,13] (fun e A'=>∃ i ks,i ≤ ms.length ∧ ndB [n] (vmNames ms) = ndB ks (vmNames (ms.drop i)) ∧ e = [(3,.map (A.length + 1)),(11,.slice (mRows ms)),(12,.int .i64 ms.length),(13,.int .i64 i)] ∧ A'.take A.length = A ∧ A.length + 1 < A'.length ∧ A'.getD (A.length + 1) .dead = .mapb (esN ks)) (fun e _=>ms.length - (intOf (Abs.look 13 e)).toNat) ?_ ?_
  · simp only [zW,zX,zD,builtinA,isLeaf,const1,ustrA,simprocAttr,ti3,ti9,ti143,ti197,ti201,ti311,ca244,mi143,cf,Tryz.results218,mRows_length]
    refine ⟨0,[n],by omega,by rw [List.drop_zero],rfl,?_⟩
    first
      | rfl
      | exact ⟨by omega,rfl⟩
      | exact ⟨by simp,by simp,rfl⟩
      | simp [esN]
  · rintro e A' ⟨i,ks,hi,hq,rfl,ht,hl,hb⟩
    by_cases hlt : i < ms.length
    · have d1 : decide ((i : Int) < (ms.length : Int)) = true:=by simp; omega
      have hlt' : 0 ≤ (i : Int) ∧ (i : Int) < (ms.length : Int):=by omega
      have hg:=mRows_getD hlt
      rw [vm_drop hlt] at hq
      have hi1 : IntKind.i64.wrap ((i : Int) + 1) = ((i + 1 : Nat) : Int):=by rw [wrap64 (by omega) (by omega)]; rfl
      generalize ms.getD i vm0 = m at *
      have hdf:=impl_define (A.length + 1) ks m.name (A' ++ [.cells [.str m.name,.slice (vRows m.sig)]]) (by simp; omega) (by rw [Abs.getD_append_left hl]; exact hb)
      simp only [vmNames,List.map_cons,ndB] at hq
      simp only [mE] at hg
      simp only [zW,zX,zD,builtinA,isLeaf,const1,ustrA,simprocAttr,ti3,ti9,ti143,ti197,ti201,ti311,ca244,mi143,cf,Tryz.results218,mRows_length,d1,hg]
      refine ⟨hlt',?_⟩
      refine callO_intro hdf ?_
      rintro r A2 ⟨rfl,ks',rfl,hks⟩
      have k1 : ((A' ++ [Box.cells [.str m.name,.slice (vRows m.sig)]]).set (A.length + 1) (.mapb (esN ks'))).take A.length = A:=by
        rw [List.take_set_of_le (by omega),List.take_append_of_le_length (by omega)]; exact ht
      have k2 : A.length + 1 < ((A' ++ [Box.cells [.str m.name,.slice (vRows m.sig)]]).set (A.length + 1) (.mapb (esN ks'))).length:=by simp; omega
      have k3 : ((A' ++ [Box.cells [.str m.name,.slice (vRows m.sig)]]).set (A.length + 1) (.mapb (esN ks'))).getD (A.length + 1) .dead = .mapb (esN ks'):=getD_set_self (by simp; omega)
      by_cases hm : m.name ∈ ks
      · rw [decide_eq_true hm,Bool.not_true,Bool.false_and] at hq
        simp only [zW,zX,zD,builtinA,isLeaf,const1,ustrA,simprocAttr,ti3,ti9,ti143,ti197,ti201,ti311,ca244,mi143,cf,Tryz.results218,decide_eq_true hm]
        exact ⟨hcl _ k1 k2,by rw [vmNames,hq],k1⟩
      · rw [decide_eq_false hm,Bool.not_false,Bool.true_and] at hq
        have hk:=hks hm
        subst hk
        simp only [zW,zX,zD,builtinA,isLeaf,const1,ustrA,simprocAttr,ti3,ti9,ti143,ti197,ti201,ti311,ca244,mi143,cf,Tryz.results218,decide_eq_false hm,hi1,LoopK_eq]
        refine ⟨⟨i + 1,_,by omega,hq,rfl,k1,?_⟩,?_⟩
        · first
            | exact k3
            | exact ⟨k2,k3⟩
            | (simp at k2 k3 ⊢; exact ⟨by omega,k3⟩)
        · simp only [intOf]; omega
    · have d1 : decide ((i : Int) < (ms.length : Int)) = false:=by simp; omega
      have e : i = ms.length:=by omega
      subst e
      rw [List.drop_length] at hq
      simp only [zW,zX,zD,builtinA,isLeaf,const1,ustrA,simprocAttr,ti3,ti9,ti143,ti197,ti201,ti311,ca244,mi143,cf,Tryz.results218,mRows_length,d1]
      exact ⟨hcl _ ht hl,by rw [hq]; rfl,ht⟩
structure VU where
  name : List UInt8
  params : List VM
  body : List VD
  face : List VI
def uvE (x : VU) : List AV:=[.str x.name,.slice (mRows x.params),.slice (dRows x.body),.slice (vRows x.face)]
structure UnOf (u : UnI) (x : VU) : Prop where
  name : x.name = u.name
  plen : u.params.length ≤ 3
  params : ReadsM u.params x.params
  blen : u.body.length ≤ 10
  body : ReadsD u.body x.body
  okb : ∀ y ∈ x.body,okD y
  ordb : ordD x.body = true
  flen : u.face.length ≤ 8
  face : ReadsTo u.face x.face
  ordf : ordB x.face = true
  mod : moduleB u.name = true
  nd : ndB [u.name] (vmNames x.params) = true
theorem mRows_view (ms : List VM) (A : List Box) : ∀ k j,k < (mRows ms).length → j < 2 → View A (Abs.rowAt (mRows ms) k j) (Abs.rowAt (mRows ms) k j):=by
  intro k j hk hj
  refine .leaf _ ?_
  rw [mRows_length] at hk
  simp only [Abs.rowAt,mRows_getD hk,mE]
  match j,hj with
  | 0,_=>rfl
  | 1,_=>rfl
theorem skz_same {T : Ranks} {As : Nat → List Box} {k : Nat} (h : As (T.next k (T.lo k)) = As (T.lo k)) (he : T.lo k = T.hi k) : SkZ T As k:=fun c h1 h2=>by
  obtain rfl : c = T.lo k:=by omega
  exact h
theorem nd_iff : ∀ (ps : List ImI) (set : List (List UInt8)),ndB set (nmP ps) = true ↔ ∀ i,i < ps.length → (ps.getD i pm0).name ∉ set ∧ (ps.getD i pm0).name ∉ nmP (ps.take i)
  | [],set=>by simp [ndB,nmP]
  | p :: ps,set=>by
    have ih:=nd_iff ps (set ++ [p.name])
    simp only [nmP,List.map_cons,ndB,Bool.and_eq_true,Bool.not_eq_true',decide_eq_false_iff_not] at ih ⊢
    rw [ih]
    constructor
    · rintro ⟨h1,h2⟩ i hi
      cases i with
      | zero=>exact ⟨h1,by simp⟩
      | succ i =>
        have:=h2 i (by simpa using hi)
        simp only [List.getD_cons_succ,List.take_succ_cons,List.map_cons,List.mem_cons,not_or]
        simp only [List.mem_append,List.mem_singleton,not_or] at this
        exact ⟨this.1.1,this.1.2,this.2⟩
    · intro h
      refine ⟨(h 0 (by simp)).1,fun i hi=>?_⟩
      have:=h (i + 1) (by simpa using hi)
      simp only [List.getD_cons_succ,List.take_succ_cons,List.map_cons,List.mem_cons,not_or] at this
      simp only [List.mem_append,List.mem_singleton,not_or]
      exact ⟨⟨this.1,this.2.1⟩,this.2.2⟩
theorem vmNames_eq {s : List ImI} {ms : List VM} (h : ReadsM s ms) : vmNames ms = nmP s:=by
  refine List.ext_getElem (by simp [vmNames,nmP,h.1]) fun i h1 h2=>?_
  have hi : i < s.length:=by simpa [nmP] using h2
  have hm : i < ms.length:=by simpa [vmNames] using h1
  have:=(h.2 i hi).1
  simp only [vmNames,nmP,List.getElem_map]
  simpa [List.getD,hi,hm] using this
theorem unitB_read {u : UnI} {ms : List VM} {ys : List VD} {zs : List VI} (h3 : u.params.length ≤ 3) (hm : ReadsM u.params ms) (h10 : u.body.length ≤ 10) (hd : ReadsD u.body ys) (h8 : u.face.length ≤ 8) (hz : ReadsTo u.face zs) :
    unitB u = (((ordD ys && ordB zs) && moduleB u.name) && ndB [u.name] (vmNames ms)):=by
  have hpar : ((List.range u.params.length).all fun i=>parB u.name (u.params.take i) (u.params.getD i pm0)) = ndB [u.name] (vmNames ms):=by
    rw [vmNames_eq hm,Bool.eq_iff_iff,List.all_eq_true,nd_iff]
    constructor
    · intro h i hi
      have:=h i (List.mem_range.mpr hi)
      simp only [parB,Bool.and_eq_true,Bool.not_eq_true',decide_eq_false_iff_not] at this
      exact ⟨by simpa using this.1.1.2,this.1.2⟩
    · intro h i hi
      have hi':=List.mem_range.mp hi
      obtain ⟨k1,k2⟩:=h i hi'
      obtain ⟨_,q2,q3,q4,q5⟩:=hm.2 i hi'
      simp only [parB,Bool.and_eq_true,Bool.not_eq_true',decide_eq_false_iff_not]
      refine ⟨⟨⟨q5,by simpa using k1⟩,k2⟩,?_⟩
      rw [sigB_reads q2 q3]; exact q4
  unfold unitB
  rw [hpar,decide_eq_true h3,Bool.true_and,stsV_reads h10 hd,sigB_reads h8 hz]
  cases ndB [u.name] (vmNames ms) <;> cases moduleB u.name <;> cases ordD ys <;> cases ordB zs <;> rfl
theorem unitB_par {u : UnI} (h : 3 < u.params.length ∨ ∃ x ∈ u.params,impOk x = false) : unitB u = false:=by
  rcases h with h | ⟨x,hx,hb⟩
  · unfold unitB; rw [decide_eq_false (by omega)]; simp
  · obtain ⟨i,hi,rfl⟩:=List.getElem_of_mem hx
    refine parB_no hi ?_
    have e : u.params.getD i pm0 = u.params[i]:=by simp [List.getD,hi]
    rw [e]
    unfold impOk at hb
    unfold parB
    cases h1 : sigB u.params[i].sig with
    | false=>simp
    | true=>rw [h1,Bool.true_and] at hb; rw [hb]; simp
theorem fr_ge (A L : List Box) {c : Nat} (X : Box) (hc : A.length ≤ c) : Outer A ((A ++ L).set c X) ∧ ((A ++ L).set c X).take A.length = A:=by
  have hg : ∀ k,k < A.length → ((A ++ L).set c X).getD k .dead = A.getD k .dead:=fun k hk=>by
    rw [getD_set_ne' (by omega),Abs.getD_append_left hk]
  have hl : A.length ≤ ((A ++ L).set c X).length:=by simp
  exact ⟨⟨hl,fun k hk=>.inl (hg k hk)⟩,take_of_getD hl rfl hg⟩
set_option maxRecDepth 100000 in
set_option maxHeartbeats 4000000 in
theorem impl_readUnit (u : UnI) (hu : UnBig u) (A : List Box) : ACalls Tryz.prog 128 [.agg (uE u)] A (fun r A'=>((∃ x,UnOf u x ∧ r = .tuple [.agg (uvE x),.bool true]) ∨ (unitB u = false ∧ ∃ c1 c2 c3,r = .tuple [.agg [.str u.name,.slice c1,.slice c2,.slice c3],.bool false])) ∧ A' = A):=by
  obtain ⟨⟨hp1,hp2⟩,⟨hb1,hb2⟩,hf1,hf2⟩:=hu
  have hre:=impl_readEachM 3 (by omega) u.params hp1 hp2 (A ++ [.cells [.str u.name,.slice (pEs u.params),.slice (iEs u.body),.slice (sEs u.face)],.cells [.str [],.nils,.nils,.nils]])
  have hrs:=impl_readStruct u.body hb1 (fun x hx=>(hb2 x hx).2)
  have hrf:=impl_readSig u.face hf1 hf2
  have hlen : (A ++ [Box.cells [.str u.name,.slice (pEs u.params),.slice (iEs u.body),.slice (sEs u.face)],.cells [.str [],.nils,.nils,.nils]]).length = A.length + 2:=by simp
  rw [hlen] at hre
  rw [uE]
  refine acalls_enter (cf:=cf 52 [0,1,2,3,4,5,6,7,8,9,10]) foll Tryz.func128 Tryz.ntmps128 (by simp [cf]) ?_
  simp only [Tryz.f128,EnterK_some,zW,zX,zD,builtinA,isLeaf,const1,ustrA,simprocAttr,ti9,ti50,ti69,ti77,ti78,ti80,ti194,ti201,ti304,ca38,ca91,ca215,ca217,ca218,cf,Tryz.results128]
  refine callO_intro hre ?_
  rintro r A' ⟨B,rfl,⟨ms,j,h3,hrm,rfl,hj,hg⟩ | ⟨hbad,rfl⟩⟩
  · have hg2 : ∀ L,(A ++ (Box.cells [.str u.name,.slice (pEs u.params),.slice (iEs u.body),.slice (sEs u.face)] :: Box.cells [.str [],.nils,.nils,.nils] :: (B ++ L))).getD (A.length + 2 + j) .dead = .row 2 (mRows ms) 0:=fun L=>by
      rw [Abs.getD_append_right (by omega),show A.length + 2 + j - A.length = j + 2 by omega]
      show (B ++ L).getD j .dead = _
      rw [Abs.getD_append_left hj]; exact hg
    have hg3 : (A ++ (Box.cells [.str u.name,.slice (pEs u.params),.slice (iEs u.body),.slice (sEs u.face)] :: Box.cells [.str [],.nils,.nils,.nils] :: B)).getD (A.length + 2 + j) .dead = .row 2 (mRows ms) 0:=by
      have:=hg2 []
      rwa [List.append_nil] at this
    have hg4 : ∀ C L,(A ++ (Box.cells [.str u.name,.slice (pEs u.params),.slice (iEs u.body),.slice (sEs u.face)] :: C :: (B ++ L))).getD (A.length + 2 + j) .dead = .row 2 (mRows ms) 0:=fun C L=>by
      rw [Abs.getD_append_right (by omega),show A.length + 2 + j - A.length = j + 2 by omega]
      show (B ++ L).getD j .dead = _
      rw [Abs.getD_append_left hj]; exact hg
    simp only [zW,zX,zD,builtinA,isLeaf,const1,ustrA,simprocAttr,ti9,ti50,ti69,ti77,ti78,ti80,ti194,ti201,ti304,ca38,ca91,ca215,ca217,ca218,cf,Tryz.results128]
    refine callK_intro (by simp only [zW,zX,zD,builtinA,isLeaf,const1,ustrA,simprocAttr,Option.map_some] <;> rfl) (hrs _) ?_ rfl
    rintro r A' ⟨⟨ys,h10,hrd,hok,rfl⟩ | ⟨hbad,rfl⟩,rfl⟩
    · simp only [zW,zX,zD,builtinA,isLeaf,const1,ustrA,simprocAttr,ti9,ti50,ti69,ti77,ti78,ti80,ti194,ti201,ti304,ca38,ca91,ca215,ca217,ca218,cf,Tryz.results128]
      refine callK_intro (by simp only [zW,zX,zD,builtinA,isLeaf,const1,ustrA,simprocAttr,Option.map_some] <;> rfl) (hrf _) ?_ rfl
      rintro r A' ⟨⟨zs,h8,hrz,rfl⟩ | ⟨hbad,rfl⟩,rfl⟩
      · have hub:=unitB_read h3 hrm h10 hrd h8 hrz
        have hvw : ∀ H : List Box,H.getD (A.length + 2 + j) .dead = .row 2 (mRows ms) 0 → View H (.agg [.str u.name,.own (A.length + 2 + j),.slice (dRows ys),.slice (vRows zs)]) (.agg [.str u.name,.slice (mRows ms),.slice (dRows ys),.slice (vRows zs)]):=fun H hH=>.agg _ _ rfl fun i hi=>by
          match i,hi with
          | 0,_=>exact .leaf _ rfl
          | 1,_=>exact .row (A.length + 2 + j) 2 0 _ _ hH rfl (mRows_leaf ms) (mRows_view ms H)
          | 2,_=>exact .leaf _ rfl
          | 3,_=>exact .leaf _ rfl
        have hnd:=fun H (hH : H.getD (A.length + 2 + j) .dead = .row 2 (mRows ms) 0)=>borrowI (.cons (hvw H hH) .nil) rfl (fun A=>impl_namesDiffer u.name ms (by have:=hrm.1; omega) (dRows ys) (vRows zs) A)
        have hfz : ∀ b,unitB u = false → ((∃ x,UnOf u x ∧ AV.tuple [.agg [.str u.name,.slice (mRows ms),.slice (dRows ys),.slice (vRows zs)],.bool false] = .tuple [.agg (uvE x),.bool true]) ∨ (unitB u = false ∧ ∃ c1 c2 c3,AV.tuple [.agg [.str u.name,.slice (mRows ms),.slice (dRows ys),.slice (vRows zs)],.bool false] = .tuple [.agg [.str u.name,.slice c1,.slice c2,.slice c3],.bool b])) ∨ b = true:=fun b hb=>by
          cases b with
          | true=>exact .inr rfl
          | false=>exact .inl (.inr ⟨hb,_,_,_,rfl⟩)
        cases ho : ordD ys with
        | false =>
          rw [ho] at hub
          simp only [Bool.false_and] at hub
          simp only [zW,zX,zD,builtinA,isLeaf,const1,ustrA,simprocAttr,ti9,ti50,ti69,ti77,ti78,ti80,ti194,ti201,ti304,ca38,ca91,ca215,ca217,ca218,cf,Tryz.results128,hg3]
          refine .inr (drawE_intro [(false,0,1),(false,0,0),(false,0,0),(false,0,0),(false,0,0),(false,0,0),(false,0,0),(false,0,0),(false,0,0),(false,0,0),(false,0,0),(false,0,0),(false,0,0),(false,0,0),(false,0,0),(true,0,0),(false,1,2),(true,1,1),(false,2,2)] [A ++ (.cells [.str u.name,.slice (pEs u.params),.slice (iEs u.body),.slice (sEs u.face)] :: Box.cells [.str [],.nils,.nils,.nils] :: (B ++ [.cells [.str u.name,.own (A.length + 2 + j),.slice (dRows ys),.slice (vRows zs)]])),A ++ (.cells [.str u.name,.slice (pEs u.params),.slice (iEs u.body),.slice (sEs u.face)] :: Box.cells [.str [],.nils,.nils,.nils] :: (B ++ [.cells [.str u.name,.own (A.length + 2 + j),.slice (dRows ys),.slice (vRows zs)]])),A ++ (.cells [.str u.name,.slice (pEs u.params),.slice (iEs u.body),.slice (sEs u.face)] :: .cells [.str u.name,.own (A.length + 2 + j),.slice (dRows ys),.slice (vRows zs)] :: (B ++ [.cells [.str u.name,.own (A.length + 2 + j),.slice (dRows ys),.slice (vRows zs)]]))] 2 rfl (by kernel_rfl) (by kernel_rfl) (by kernel_rfl) (by kernel_rfl) (by kernel_rfl) (by kernel_rfl) ?_)
          simp only [zW,zX,zD,builtinA,isLeaf,const1,ustrA,simprocAttr,ti9,ti50,ti69,ti77,ti78,ti80,ti194,ti201,ti304,ca38,ca91,ca215,ca217,ca218,cf,Tryz.results128]
          repeat' (first | refine And.intro (skz_of rfl) ?_ | refine And.intro (skz_same rfl rfl) ?_)
          simp only [zW,zX,zD,builtinA,isLeaf,const1,ustrA,simprocAttr,ti9,ti50,ti69,ti77,ti78,ti80,ti194,ti201,ti304,ca38,ca91,ca215,ca217,ca218,cf,Tryz.results128,hg4]
          exact ⟨(fr_ge _ _ _ (by omega)).1,.inr ⟨hub,_,_,_,rfl⟩,(fr_ge _ _ _ (by omega)).2⟩
        | true =>
          cases hz : ordB zs with
          | false =>
            rw [ho,hz] at hub
            simp only [Bool.false_and,Bool.and_false] at hub
            simp only [zW,zX,zD,builtinA,isLeaf,const1,ustrA,simprocAttr,ti9,ti50,ti69,ti77,ti78,ti80,ti194,ti201,ti304,ca38,ca91,ca215,ca217,ca218,cf,Tryz.results128,hg3]
            refine .inr (drawE_intro [(false,0,1),(false,0,0),(false,0,0),(false,0,0),(false,0,0),(false,0,0),(false,0,0),(false,0,0),(false,0,0),(false,0,0),(false,0,0),(false,0,0),(false,0,0),(false,0,0),(false,0,0),(true,0,0),(false,1,2),(true,1,1),(false,2,2)] [A ++ (.cells [.str u.name,.slice (pEs u.params),.slice (iEs u.body),.slice (sEs u.face)] :: Box.cells [.str [],.nils,.nils,.nils] :: (B ++ [.cells [.str u.name,.own (A.length + 2 + j),.slice (dRows ys),.slice (vRows zs)]])),A ++ (.cells [.str u.name,.slice (pEs u.params),.slice (iEs u.body),.slice (sEs u.face)] :: Box.cells [.str [],.nils,.nils,.nils] :: (B ++ [.cells [.str u.name,.own (A.length + 2 + j),.slice (dRows ys),.slice (vRows zs)]])),A ++ (.cells [.str u.name,.slice (pEs u.params),.slice (iEs u.body),.slice (sEs u.face)] :: .cells [.str u.name,.own (A.length + 2 + j),.slice (dRows ys),.slice (vRows zs)] :: (B ++ [.cells [.str u.name,.own (A.length + 2 + j),.slice (dRows ys),.slice (vRows zs)]]))] 2 rfl (by kernel_rfl) (by kernel_rfl) (by kernel_rfl) (by kernel_rfl) (by kernel_rfl) (by kernel_rfl) ?_)
            simp only [zW,zX,zD,builtinA,isLeaf,const1,ustrA,simprocAttr,ti9,ti50,ti69,ti77,ti78,ti80,ti194,ti201,ti304,ca38,ca91,ca215,ca217,ca218,cf,Tryz.results128]
            repeat' (first | refine And.intro (skz_of rfl) ?_ | refine And.intro (skz_same rfl rfl) ?_)
            simp only [zW,zX,zD,builtinA,isLeaf,const1,ustrA,simprocAttr,ti9,ti50,ti69,ti77,ti78,ti80,ti194,ti201,ti304,ca38,ca91,ca215,ca217,ca218,cf,Tryz.results128,hg4]
            exact ⟨(fr_ge _ _ _ (by omega)).1,.inr ⟨hub,_,_,_,rfl⟩,(fr_ge _ _ _ (by omega)).2⟩
          | true =>
            cases hm : moduleB u.name with
            | false =>
              rw [ho,hz,hm] at hub
              simp only [Bool.false_and,Bool.and_false] at hub
              simp only [zW,zX,zD,builtinA,isLeaf,const1,ustrA,simprocAttr,ti9,ti50,ti69,ti77,ti78,ti80,ti194,ti201,ti304,ca38,ca91,ca215,ca217,ca218,cf,Tryz.results128,hg3]
              refine .inr (drawE_intro [(false,0,1),(false,0,0),(false,0,0),(false,0,0),(false,0,0),(false,0,0),(false,0,0),(false,0,0),(false,0,0),(false,0,0),(false,0,0),(false,0,0),(false,0,0),(false,0,0),(false,0,0),(true,0,0),(false,1,2),(true,1,1),(false,2,2)] [A ++ (.cells [.str u.name,.slice (pEs u.params),.slice (iEs u.body),.slice (sEs u.face)] :: Box.cells [.str [],.nils,.nils,.nils] :: (B ++ [.cells [.str u.name,.own (A.length + 2 + j),.slice (dRows ys),.slice (vRows zs)]])),A ++ (.cells [.str u.name,.slice (pEs u.params),.slice (iEs u.body),.slice (sEs u.face)] :: Box.cells [.str [],.nils,.nils,.nils] :: (B ++ [.cells [.str u.name,.own (A.length + 2 + j),.slice (dRows ys),.slice (vRows zs)]])),A ++ (.cells [.str u.name,.slice (pEs u.params),.slice (iEs u.body),.slice (sEs u.face)] :: .cells [.str u.name,.own (A.length + 2 + j),.slice (dRows ys),.slice (vRows zs)] :: (B ++ [.cells [.str u.name,.own (A.length + 2 + j),.slice (dRows ys),.slice (vRows zs)]]))] 2 rfl (by kernel_rfl) (by kernel_rfl) (by kernel_rfl) (by kernel_rfl) (by kernel_rfl) (by kernel_rfl) ?_)
              simp only [zW,zX,zD,builtinA,isLeaf,const1,ustrA,simprocAttr,ti9,ti50,ti69,ti77,ti78,ti80,ti194,ti201,ti304,ca38,ca91,ca215,ca217,ca218,cf,Tryz.results128]
              refine callEN_intro (fun A=>by simp only [zW,zX,zD,builtinA,isLeaf,const1,ustrA,simprocAttr,Option.map_some] <;> rfl) (fun A=>impl_ModuleName u.name A) ?_ rfl rfl
              simp only [zW,zX,zD,builtinA,isLeaf,const1,ustrA,simprocAttr,ti9,ti50,ti69,ti77,ti78,ti80,ti194,ti201,ti304,ca38,ca91,ca215,ca217,ca218,cf,Tryz.results128,hm]
              repeat' (first | refine And.intro (skz_of rfl) ?_ | refine And.intro (skz_same rfl rfl) ?_)
              simp only [zW,zX,zD,builtinA,isLeaf,const1,ustrA,simprocAttr,ti9,ti50,ti69,ti77,ti78,ti80,ti194,ti201,ti304,ca38,ca91,ca215,ca217,ca218,cf,Tryz.results128,hg4]
              exact ⟨(fr_ge _ _ _ (by omega)).1,.inr ⟨hub,_,_,_,rfl⟩,(fr_ge _ _ _ (by omega)).2⟩
            | true =>
              rw [ho,hz,hm] at hub
              simp only [Bool.true_and] at hub
              simp only [zW,zX,zD,builtinA,isLeaf,const1,ustrA,simprocAttr,ti9,ti50,ti69,ti77,ti78,ti80,ti194,ti201,ti304,ca38,ca91,ca215,ca217,ca218,cf,Tryz.results128,hg3]
              refine .inr (drawE_intro [(false,0,1),(false,0,0),(false,0,0),(false,0,0),(false,0,0),(false,0,0),(false,0,0),(false,0,0),(false,0,0),(false,0,0),(false,0,0),(false,0,0),(false,0,0),(false,0,0),(false,0,0),(true,0,0),(false,1,2),(true,1,1),(false,2,2)] [A ++ (.cells [.str u.name,.slice (pEs u.params),.slice (iEs u.body),.slice (sEs u.face)] :: Box.cells [.str [],.nils,.nils,.nils] :: (B ++ [.cells [.str u.name,.own (A.length + 2 + j),.slice (dRows ys),.slice (vRows zs)]])),A ++ (.cells [.str u.name,.slice (pEs u.params),.slice (iEs u.body),.slice (sEs u.face)] :: Box.cells [.str [],.nils,.nils,.nils] :: (B ++ [.cells [.str u.name,.own (A.length + 2 + j),.slice (dRows ys),.slice (vRows zs)]])),A ++ (.cells [.str u.name,.slice (pEs u.params),.slice (iEs u.body),.slice (sEs u.face)] :: .cells [.str u.name,.own (A.length + 2 + j),.slice (dRows ys),.slice (vRows zs)] :: (B ++ [.cells [.str u.name,.own (A.length + 2 + j),.slice (dRows ys),.slice (vRows zs)]]))] 2 rfl (by kernel_rfl) (by kernel_rfl) (by kernel_rfl) (by kernel_rfl) (by kernel_rfl) (by kernel_rfl) ?_)
              simp only [zW,zX,zD,builtinA,isLeaf,const1,ustrA,simprocAttr,ti9,ti50,ti69,ti77,ti78,ti80,ti194,ti201,ti304,ca38,ca91,ca215,ca217,ca218,cf,Tryz.results128]
              refine callEN_intro (fun A=>by simp only [zW,zX,zD,builtinA,isLeaf,const1,ustrA,simprocAttr,Option.map_some] <;> rfl) (fun A=>impl_ModuleName u.name A) ?_ rfl rfl
              simp only [zW,zX,zD,builtinA,isLeaf,const1,ustrA,simprocAttr,ti9,ti50,ti69,ti77,ti78,ti80,ti194,ti201,ti304,ca38,ca91,ca215,ca217,ca218,cf,Tryz.results128,hm]
              refine callEO_intro (hnd _ (hg2 _)) ?_ rfl
              cases hnn : ndB [u.name] (vmNames ms) with
              | false =>
                simp only [zW,zX,zD,builtinA,isLeaf,const1,ustrA,simprocAttr,ti9,ti50,ti69,ti77,ti78,ti80,ti194,ti201,ti304,ca38,ca91,ca215,ca217,ca218,cf,Tryz.results128,hg4]
                repeat' (first | refine And.intro (skz_of rfl) ?_ | refine And.intro (skz_same rfl rfl) ?_)
                rw [hnn] at hub
                exact ⟨(fr_ge _ _ _ (by omega)).1,.inr ⟨hub,_,_,_,rfl⟩,(fr_ge _ _ _ (by omega)).2⟩
              | true =>
                simp only [zW,zX,zD,builtinA,isLeaf,const1,ustrA,simprocAttr,ti9,ti50,ti69,ti77,ti78,ti80,ti194,ti201,ti304,ca38,ca91,ca215,ca217,ca218,cf,Tryz.results128,hg4]
                repeat' (first | refine And.intro (skz_of rfl) ?_ | refine And.intro (skz_same rfl rfl) ?_)
                exact ⟨(fr_ge _ _ _ (by omega)).1,.inl ⟨⟨u.name,ms,ys,zs⟩,⟨rfl,h3,hrm,h10,hrd,hok,ho,h8,hrz,hz,hm,hnn⟩,rfl⟩,(fr_ge _ _ _ (by omega)).2⟩
      · have hub : unitB u = false:=by unfold unitB; rw [sigB_bad hbad,Bool.and_false]
        cases ho : ordD ys with
        | false =>
          simp only [zW,zX,zD,builtinA,isLeaf,const1,ustrA,simprocAttr,ti9,ti50,ti69,ti77,ti78,ti80,ti194,ti201,ti304,ca38,ca91,ca215,ca217,ca218,cf,Tryz.results128,hg3]
          refine .inr (drawE_intro [(false,0,1),(false,0,0),(false,0,0),(false,0,0),(false,0,0),(false,0,0),(false,0,0),(false,0,0),(false,0,0),(false,0,0),(false,0,0),(false,0,0),(false,0,0),(false,0,0),(false,0,0),(true,0,0),(false,1,2),(true,1,1),(false,2,2)] [A ++ (Box.cells [.str u.name,.slice (pEs u.params),.slice (iEs u.body),.slice (sEs u.face)] :: Box.cells [.str [],.nils,.nils,.nils] :: (B ++ [.cells [.str u.name,.own (A.length + 2 + j),.slice (dRows ys),.slice ([])]])),A ++ (Box.cells [.str u.name,.slice (pEs u.params),.slice (iEs u.body),.slice (sEs u.face)] :: Box.cells [.str [],.nils,.nils,.nils] :: (B ++ [.cells [.str u.name,.own (A.length + 2 + j),.slice (dRows ys),.slice ([])]])),A ++ (Box.cells [.str u.name,.slice (pEs u.params),.slice (iEs u.body),.slice (sEs u.face)] :: Box.cells [.str u.name,.own (A.length + 2 + j),.slice (dRows ys),.slice ([])] :: (B ++ [.cells [.str u.name,.own (A.length + 2 + j),.slice (dRows ys),.slice ([])]]))] 2 rfl (by kernel_rfl) (by kernel_rfl) (by kernel_rfl) (by kernel_rfl) (by kernel_rfl) (by kernel_rfl) ?_)
          simp only [zW,zX,zD,builtinA,isLeaf,const1,ustrA,simprocAttr,ti9,ti50,ti69,ti77,ti78,ti80,ti194,ti201,ti304,ca38,ca91,ca215,ca217,ca218,cf,Tryz.results128]
          repeat' (first | refine And.intro (skz_of rfl) ?_ | refine And.intro (skz_same rfl rfl) ?_)
          simp only [zW,zX,zD,builtinA,isLeaf,const1,ustrA,simprocAttr,ti9,ti50,ti69,ti77,ti78,ti80,ti194,ti201,ti304,ca38,ca91,ca215,ca217,ca218,cf,Tryz.results128,hg4]
          exact ⟨(fr_ge _ _ _ (by omega)).1,.inr ⟨hub,_,_,_,rfl⟩,(fr_ge _ _ _ (by omega)).2⟩
        | true =>
          simp only [zW,zX,zD,builtinA,isLeaf,const1,ustrA,simprocAttr,ti9,ti50,ti69,ti77,ti78,ti80,ti194,ti201,ti304,ca38,ca91,ca215,ca217,ca218,cf,Tryz.results128,hg3]
          refine .inr (drawE_intro [(false,0,1),(false,0,0),(false,0,0),(false,0,0),(false,0,0),(false,0,0),(false,0,0),(false,0,0),(false,0,0),(false,0,0),(false,0,0),(false,0,0),(false,0,0),(false,0,0),(false,0,0),(true,0,0),(false,1,2),(true,1,1),(false,2,2)] [A ++ (Box.cells [.str u.name,.slice (pEs u.params),.slice (iEs u.body),.slice (sEs u.face)] :: Box.cells [.str [],.nils,.nils,.nils] :: (B ++ [.cells [.str u.name,.own (A.length + 2 + j),.slice (dRows ys),.slice ([])]])),A ++ (Box.cells [.str u.name,.slice (pEs u.params),.slice (iEs u.body),.slice (sEs u.face)] :: Box.cells [.str [],.nils,.nils,.nils] :: (B ++ [.cells [.str u.name,.own (A.length + 2 + j),.slice (dRows ys),.slice ([])]])),A ++ (Box.cells [.str u.name,.slice (pEs u.params),.slice (iEs u.body),.slice (sEs u.face)] :: Box.cells [.str u.name,.own (A.length + 2 + j),.slice (dRows ys),.slice ([])] :: (B ++ [.cells [.str u.name,.own (A.length + 2 + j),.slice (dRows ys),.slice ([])]]))] 2 rfl (by kernel_rfl) (by kernel_rfl) (by kernel_rfl) (by kernel_rfl) (by kernel_rfl) (by kernel_rfl) ?_)
          simp only [zW,zX,zD,builtinA,isLeaf,const1,ustrA,simprocAttr,ti9,ti50,ti69,ti77,ti78,ti80,ti194,ti201,ti304,ca38,ca91,ca215,ca217,ca218,cf,Tryz.results128]
          repeat' (first | refine And.intro (skz_of rfl) ?_ | refine And.intro (skz_same rfl rfl) ?_)
          simp only [zW,zX,zD,builtinA,isLeaf,const1,ustrA,simprocAttr,ti9,ti50,ti69,ti77,ti78,ti80,ti194,ti201,ti304,ca38,ca91,ca215,ca217,ca218,cf,Tryz.results128,hg4]
          exact ⟨(fr_ge _ _ _ (by omega)).1,.inr ⟨hub,_,_,_,rfl⟩,(fr_ge _ _ _ (by omega)).2⟩
    · have hub : unitB u = false:=by unfold unitB; rw [stsV_bad hbad,Bool.and_false,Bool.false_and]
      simp only [zW,zX,zD,builtinA,isLeaf,const1,ustrA,simprocAttr,ti9,ti50,ti69,ti77,ti78,ti80,ti194,ti201,ti304,ca38,ca91,ca215,ca217,ca218,cf,Tryz.results128]
      refine callK_intro (by simp only [zW,zX,zD,builtinA,isLeaf,const1,ustrA,simprocAttr,Option.map_some] <;> rfl) (hrf _) ?_ rfl
      rintro r A' ⟨⟨zs,h8,hrz,rfl⟩ | ⟨hbad,rfl⟩,rfl⟩
      · simp only [zW,zX,zD,builtinA,isLeaf,const1,ustrA,simprocAttr,ti9,ti50,ti69,ti77,ti78,ti80,ti194,ti201,ti304,ca38,ca91,ca215,ca217,ca218,cf,Tryz.results128,hg3]
        refine .inr (drawE_intro [(false,0,1),(false,0,0),(false,0,0),(false,0,0),(false,0,0),(false,0,0),(false,0,0),(false,0,0),(false,0,0),(false,0,0),(false,0,0),(false,0,0),(false,0,0),(false,0,0),(false,0,0),(true,0,0),(false,1,2),(true,1,1),(false,2,2)] [A ++ (Box.cells [.str u.name,.slice (pEs u.params),.slice (iEs u.body),.slice (sEs u.face)] :: Box.cells [.str [],.nils,.nils,.nils] :: (B ++ [.cells [.str u.name,.own (A.length + 2 + j),.slice ([]),.slice (vRows zs)]])),A ++ (Box.cells [.str u.name,.slice (pEs u.params),.slice (iEs u.body),.slice (sEs u.face)] :: Box.cells [.str [],.nils,.nils,.nils] :: (B ++ [.cells [.str u.name,.own (A.length + 2 + j),.slice ([]),.slice (vRows zs)]])),A ++ (Box.cells [.str u.name,.slice (pEs u.params),.slice (iEs u.body),.slice (sEs u.face)] :: Box.cells [.str u.name,.own (A.length + 2 + j),.slice ([]),.slice (vRows zs)] :: (B ++ [.cells [.str u.name,.own (A.length + 2 + j),.slice ([]),.slice (vRows zs)]]))] 2 rfl (by kernel_rfl) (by kernel_rfl) (by kernel_rfl) (by kernel_rfl) (by kernel_rfl) (by kernel_rfl) ?_)
        simp only [zW,zX,zD,builtinA,isLeaf,const1,ustrA,simprocAttr,ti9,ti50,ti69,ti77,ti78,ti80,ti194,ti201,ti304,ca38,ca91,ca215,ca217,ca218,cf,Tryz.results128]
        repeat' (first | refine And.intro (skz_of rfl) ?_ | refine And.intro (skz_same rfl rfl) ?_)
        simp only [zW,zX,zD,builtinA,isLeaf,const1,ustrA,simprocAttr,ti9,ti50,ti69,ti77,ti78,ti80,ti194,ti201,ti304,ca38,ca91,ca215,ca217,ca218,cf,Tryz.results128,hg4]
        exact ⟨(fr_ge _ _ _ (by omega)).1,.inr ⟨hub,_,_,_,rfl⟩,(fr_ge _ _ _ (by omega)).2⟩
      · simp only [zW,zX,zD,builtinA,isLeaf,const1,ustrA,simprocAttr,ti9,ti50,ti69,ti77,ti78,ti80,ti194,ti201,ti304,ca38,ca91,ca215,ca217,ca218,cf,Tryz.results128,hg3]
        refine .inr (drawE_intro [(false,0,1),(false,0,0),(false,0,0),(false,0,0),(false,0,0),(false,0,0),(false,0,0),(false,0,0),(false,0,0),(false,0,0),(false,0,0),(false,0,0),(false,0,0),(false,0,0),(false,0,0),(true,0,0),(false,1,2),(true,1,1),(false,2,2)] [A ++ (Box.cells [.str u.name,.slice (pEs u.params),.slice (iEs u.body),.slice (sEs u.face)] :: Box.cells [.str [],.nils,.nils,.nils] :: (B ++ [.cells [.str u.name,.own (A.length + 2 + j),.slice ([]),.slice ([])]])),A ++ (Box.cells [.str u.name,.slice (pEs u.params),.slice (iEs u.body),.slice (sEs u.face)] :: Box.cells [.str [],.nils,.nils,.nils] :: (B ++ [.cells [.str u.name,.own (A.length + 2 + j),.slice ([]),.slice ([])]])),A ++ (Box.cells [.str u.name,.slice (pEs u.params),.slice (iEs u.body),.slice (sEs u.face)] :: Box.cells [.str u.name,.own (A.length + 2 + j),.slice ([]),.slice ([])] :: (B ++ [.cells [.str u.name,.own (A.length + 2 + j),.slice ([]),.slice ([])]]))] 2 rfl (by kernel_rfl) (by kernel_rfl) (by kernel_rfl) (by kernel_rfl) (by kernel_rfl) (by kernel_rfl) ?_)
        simp only [zW,zX,zD,builtinA,isLeaf,const1,ustrA,simprocAttr,ti9,ti50,ti69,ti77,ti78,ti80,ti194,ti201,ti304,ca38,ca91,ca215,ca217,ca218,cf,Tryz.results128]
        repeat' (first | refine And.intro (skz_of rfl) ?_ | refine And.intro (skz_same rfl rfl) ?_)
        simp only [zW,zX,zD,builtinA,isLeaf,const1,ustrA,simprocAttr,ti9,ti50,ti69,ti77,ti78,ti80,ti194,ti201,ti304,ca38,ca91,ca215,ca217,ca218,cf,Tryz.results128,hg4]
        exact ⟨(fr_ge _ _ _ (by omega)).1,.inr ⟨hub,_,_,_,rfl⟩,(fr_ge _ _ _ (by omega)).2⟩
  · have hub:=unitB_par hbad
    simp only [zW,zX,zD,builtinA,isLeaf,const1,ustrA,simprocAttr,ti9,ti50,ti69,ti77,ti78,ti80,ti194,ti201,ti304,ca38,ca91,ca215,ca217,ca218,cf,Tryz.results128]
    refine callK_intro (by simp only [zW,zX,zD,builtinA,isLeaf,const1,ustrA,simprocAttr,Option.map_some] <;> rfl) (hrs _) ?_ rfl
    rintro r A' ⟨⟨ys,h10,hrd,hok,rfl⟩ | ⟨hbad,rfl⟩,rfl⟩
    · simp only [zW,zX,zD,builtinA,isLeaf,const1,ustrA,simprocAttr,ti9,ti50,ti69,ti77,ti78,ti80,ti194,ti201,ti304,ca38,ca91,ca215,ca217,ca218,cf,Tryz.results128]
      refine callK_intro (by simp only [zW,zX,zD,builtinA,isLeaf,const1,ustrA,simprocAttr,Option.map_some] <;> rfl) (hrf _) ?_ rfl
      rintro r A' ⟨⟨zs,h8,hrz,rfl⟩ | ⟨hbad,rfl⟩,rfl⟩
      · simp only [zW,zX,zD,builtinA,isLeaf,const1,ustrA,simprocAttr,ti9,ti50,ti69,ti77,ti78,ti80,ti194,ti201,ti304,ca38,ca91,ca215,ca217,ca218,cf,Tryz.results128]
        refine .inr (drawE_intro [(false,0,1),(false,0,0),(false,0,0),(false,0,0),(false,0,0),(false,0,0),(false,0,0),(false,0,0),(false,0,0),(false,0,0),(false,0,0),(false,0,0),(false,0,0),(false,0,0),(false,0,0),(true,0,0),(false,1,2),(true,1,1),(false,2,2)] [A ++ (Box.cells [.str u.name,.slice (pEs u.params),.slice (iEs u.body),.slice (sEs u.face)] :: Box.cells [.str [],.nils,.nils,.nils] :: (B ++ [.cells [.str u.name,.nils,.slice (dRows ys),.slice (vRows zs)]])),A ++ (Box.cells [.str u.name,.slice (pEs u.params),.slice (iEs u.body),.slice (sEs u.face)] :: Box.cells [.str [],.nils,.nils,.nils] :: (B ++ [.cells [.str u.name,.nils,.slice (dRows ys),.slice (vRows zs)]])),A ++ (Box.cells [.str u.name,.slice (pEs u.params),.slice (iEs u.body),.slice (sEs u.face)] :: Box.cells [.str u.name,.nils,.slice (dRows ys),.slice (vRows zs)] :: (B ++ [.cells [.str u.name,.nils,.slice (dRows ys),.slice (vRows zs)]]))] 2 rfl (by kernel_rfl) (by kernel_rfl) (by kernel_rfl) (by kernel_rfl) (by kernel_rfl) (by kernel_rfl) ?_)
        simp only [zW,zX,zD,builtinA,isLeaf,const1,ustrA,simprocAttr,ti9,ti50,ti69,ti77,ti78,ti80,ti194,ti201,ti304,ca38,ca91,ca215,ca217,ca218,cf,Tryz.results128]
        repeat' (first | refine And.intro (skz_of rfl) ?_ | refine And.intro (skz_same rfl rfl) ?_)
        exact .inr ⟨hub,_,_,_,rfl⟩
      · simp only [zW,zX,zD,builtinA,isLeaf,const1,ustrA,simprocAttr,ti9,ti50,ti69,ti77,ti78,ti80,ti194,ti201,ti304,ca38,ca91,ca215,ca217,ca218,cf,Tryz.results128]
        refine .inr (drawE_intro [(false,0,1),(false,0,0),(false,0,0),(false,0,0),(false,0,0),(false,0,0),(false,0,0),(false,0,0),(false,0,0),(false,0,0),(false,0,0),(false,0,0),(false,0,0),(false,0,0),(false,0,0),(true,0,0),(false,1,2),(true,1,1),(false,2,2)] [A ++ (Box.cells [.str u.name,.slice (pEs u.params),.slice (iEs u.body),.slice (sEs u.face)] :: Box.cells [.str [],.nils,.nils,.nils] :: (B ++ [.cells [.str u.name,.nils,.slice (dRows ys),.slice ([])]])),A ++ (Box.cells [.str u.name,.slice (pEs u.params),.slice (iEs u.body),.slice (sEs u.face)] :: Box.cells [.str [],.nils,.nils,.nils] :: (B ++ [.cells [.str u.name,.nils,.slice (dRows ys),.slice ([])]])),A ++ (Box.cells [.str u.name,.slice (pEs u.params),.slice (iEs u.body),.slice (sEs u.face)] :: Box.cells [.str u.name,.nils,.slice (dRows ys),.slice ([])] :: (B ++ [.cells [.str u.name,.nils,.slice (dRows ys),.slice ([])]]))] 2 rfl (by kernel_rfl) (by kernel_rfl) (by kernel_rfl) (by kernel_rfl) (by kernel_rfl) (by kernel_rfl) ?_)
        simp only [zW,zX,zD,builtinA,isLeaf,const1,ustrA,simprocAttr,ti9,ti50,ti69,ti77,ti78,ti80,ti194,ti201,ti304,ca38,ca91,ca215,ca217,ca218,cf,Tryz.results128]
        repeat' (first | refine And.intro (skz_of rfl) ?_ | refine And.intro (skz_same rfl rfl) ?_)
        exact .inr ⟨hub,_,_,_,rfl⟩
    · simp only [zW,zX,zD,builtinA,isLeaf,const1,ustrA,simprocAttr,ti9,ti50,ti69,ti77,ti78,ti80,ti194,ti201,ti304,ca38,ca91,ca215,ca217,ca218,cf,Tryz.results128]
      refine callK_intro (by simp only [zW,zX,zD,builtinA,isLeaf,const1,ustrA,simprocAttr,Option.map_some] <;> rfl) (hrf _) ?_ rfl
      rintro r A' ⟨⟨zs,h8,hrz,rfl⟩ | ⟨hbad,rfl⟩,rfl⟩
      · simp only [zW,zX,zD,builtinA,isLeaf,const1,ustrA,simprocAttr,ti9,ti50,ti69,ti77,ti78,ti80,ti194,ti201,ti304,ca38,ca91,ca215,ca217,ca218,cf,Tryz.results128]
        refine .inr (drawE_intro [(false,0,1),(false,0,0),(false,0,0),(false,0,0),(false,0,0),(false,0,0),(false,0,0),(false,0,0),(false,0,0),(false,0,0),(false,0,0),(false,0,0),(false,0,0),(false,0,0),(false,0,0),(true,0,0),(false,1,2),(true,1,1),(false,2,2)] [A ++ (Box.cells [.str u.name,.slice (pEs u.params),.slice (iEs u.body),.slice (sEs u.face)] :: Box.cells [.str [],.nils,.nils,.nils] :: (B ++ [.cells [.str u.name,.nils,.slice ([]),.slice (vRows zs)]])),A ++ (Box.cells [.str u.name,.slice (pEs u.params),.slice (iEs u.body),.slice (sEs u.face)] :: Box.cells [.str [],.nils,.nils,.nils] :: (B ++ [.cells [.str u.name,.nils,.slice ([]),.slice (vRows zs)]])),A ++ (Box.cells [.str u.name,.slice (pEs u.params),.slice (iEs u.body),.slice (sEs u.face)] :: Box.cells [.str u.name,.nils,.slice ([]),.slice (vRows zs)] :: (B ++ [.cells [.str u.name,.nils,.slice ([]),.slice (vRows zs)]]))] 2 rfl (by kernel_rfl) (by kernel_rfl) (by kernel_rfl) (by kernel_rfl) (by kernel_rfl) (by kernel_rfl) ?_)
        simp only [zW,zX,zD,builtinA,isLeaf,const1,ustrA,simprocAttr,ti9,ti50,ti69,ti77,ti78,ti80,ti194,ti201,ti304,ca38,ca91,ca215,ca217,ca218,cf,Tryz.results128]
        repeat' (first | refine And.intro (skz_of rfl) ?_ | refine And.intro (skz_same rfl rfl) ?_)
        exact .inr ⟨hub,_,_,_,rfl⟩
      · simp only [zW,zX,zD,builtinA,isLeaf,const1,ustrA,simprocAttr,ti9,ti50,ti69,ti77,ti78,ti80,ti194,ti201,ti304,ca38,ca91,ca215,ca217,ca218,cf,Tryz.results128]
        refine .inr (drawE_intro [(false,0,1),(false,0,0),(false,0,0),(false,0,0),(false,0,0),(false,0,0),(false,0,0),(false,0,0),(false,0,0),(false,0,0),(false,0,0),(false,0,0),(false,0,0),(false,0,0),(false,0,0),(true,0,0),(false,1,2),(true,1,1),(false,2,2)] [A ++ (Box.cells [.str u.name,.slice (pEs u.params),.slice (iEs u.body),.slice (sEs u.face)] :: Box.cells [.str [],.nils,.nils,.nils] :: (B ++ [.cells [.str u.name,.nils,.slice ([]),.slice ([])]])),A ++ (Box.cells [.str u.name,.slice (pEs u.params),.slice (iEs u.body),.slice (sEs u.face)] :: Box.cells [.str [],.nils,.nils,.nils] :: (B ++ [.cells [.str u.name,.nils,.slice ([]),.slice ([])]])),A ++ (Box.cells [.str u.name,.slice (pEs u.params),.slice (iEs u.body),.slice (sEs u.face)] :: Box.cells [.str u.name,.nils,.slice ([]),.slice ([])] :: (B ++ [.cells [.str u.name,.nils,.slice ([]),.slice ([])]]))] 2 rfl (by kernel_rfl) (by kernel_rfl) (by kernel_rfl) (by kernel_rfl) (by kernel_rfl) (by kernel_rfl) ?_)
        simp only [zW,zX,zD,builtinA,isLeaf,const1,ustrA,simprocAttr,ti9,ti50,ti69,ti77,ti78,ti80,ti194,ti201,ti304,ca38,ca91,ca215,ca217,ca218,cf,Tryz.results128]
        repeat' (first | refine And.intro (skz_of rfl) ?_ | refine And.intro (skz_same rfl rfl) ?_)
        exact .inr ⟨hub,_,_,_,rfl⟩
end Go.Proofs.YtnjdbgiincliaaaGreat
