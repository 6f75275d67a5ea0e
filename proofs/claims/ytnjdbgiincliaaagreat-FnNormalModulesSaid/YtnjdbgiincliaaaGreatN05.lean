/- FmtSigS, SpFmtSig, ParseP, ParseS. -/
import Derived.Test.YtnjdbgiincliaaaGreatN04
import Derived.Test.YtnjdbgiincliaaaGreatAbsW3
/- Texts of signatures, the model's side. -/
set_option linter.unusedVariables false
set_option linter.unusedSimpArgs false
namespace Go.Proofs.YtnjdbgiincliaaaGreat
open Go.Abs
def txtI : VI → List UInt8
  | .ab n=>n
  | .al n v=>n ++ [61] ++ txt v
  | .va n v=>n ++ [58] ++ txt v
def bodyN (ys : List VI) : Nat → List UInt8
  | 0=>[]
  | i + 1=>bodyN ys i ++ (if i = 0 then [] else [59]) ++ txtI (ys.getD i vi0)
def txtS (ys : List VI) : List UInt8:=[123] ++ bodyN ys ys.length ++ [125]
def nameI : VI → List UInt8
  | .ab n=>n
  | .al n _=>n
  | .va n _=>n
def okI : VI → Prop
  | .ab _=>True
  | .al _ v=>VOk v
  | .va _ v=>VOk v
theorem itemOf_ok {x : SigI} {y : VI} (h : ItemOf x y) : nameI y = x.name ∧ okI y:=by
  cases y with
  | ab n=>exact ⟨h.1.symm,trivial⟩
  | al n v=>exact ⟨h.1.symm,h.2.2.2⟩
  | va n v=>exact ⟨h.1.symm,h.2.2.2⟩
theorem local_one {n : List UInt8} (h : localB n = true) : n.length = 1:=by simp [localB] at h; exact h.1
theorem txtI_len {y : VI} (h : okI y) (hn : (nameI y).length = 1) : (txtI y).length ≤ 300:=by
  cases y with
  | ab n=>simp only [txtI,nameI] at *; omega
  | al n v=>have h1:=txt_len v h.ok; have h2:=h.cnt; simp only [txtI,nameI,List.length_append,List.length_cons,List.length_nil] at *; omega
  | va n v=>have h1:=txt_len v h.ok; have h2:=h.cnt; simp only [txtI,nameI,List.length_append,List.length_cons,List.length_nil] at *; omega
theorem bodyN_len {ys : List VI} (h : ∀ k,k < ys.length → (txtI (ys.getD k vi0)).length ≤ 300) : ∀ i,i ≤ ys.length → (bodyN ys i).length ≤ 301 * i
  | 0,_=>by simp [bodyN]
  | i + 1,hi=>by
    have h1:=bodyN_len h i (by omega)
    have h2:=h i (by omega)
    have h3 : (if i = 0 then ([] : List UInt8) else [59]).length ≤ 1:=by split <;> simp
    rw [bodyN,List.length_append,List.length_append]
    omega
set_option maxRecDepth 100000 in
theorem spec_l2Text (x : SigI) (y : VI) (hln : localB x.name = true) (h : ItemOf x y) (A : List Box) : ACalls Tryz.prog 292 [.agg (sE x)] A (fun r A'=>r = .str (txtI y) ∧ A' = A):=by
  have hsx : sE x = .int .i64 x.kind :: .str x.name :: enc x.typ:=rfl
  have hl1:=local_one hln
  rw [hsx]
  cases y with
  | ab n =>
    obtain ⟨rfl,h2,h3⟩:=h
    refine acalls_enter (cf:=cf 25 [0,1,2,4,5,9]) foll Tryz.func292 Tryz.ntmps292 (by simp [cf]) ?_
    simp only [Tryz.f292,EnterK_some,zW,zX,zD,builtinA,isLeaf,const1,ustrA,simprocAttr,ti3,ti9,ti36,ti69,ca316,cf,Tryz.results292]
    simp only [zW,zX,zD,builtinA,isLeaf,const1,ustrA,simprocAttr,ti3,ti9,ti36,ti69,ca316,cf,Tryz.results292,decide_eq_true h2,enc_take,enc_length]
    rfl
  | al n v =>
    obtain ⟨rfl,h2,h3,h4⟩:=h
    have n1 : ¬ x.kind = 1:=by omega
    have hc:=h4.cnt
    rw [h3]
    refine acalls_enter (cf:=cf 25 [0,1,2,4,5,9]) foll Tryz.func292 Tryz.ntmps292 (by simp [cf]) ?_
    simp only [Tryz.f292,EnterK_some,zW,zX,zD,builtinA,isLeaf,const1,ustrA,simprocAttr,ti3,ti9,ti36,ti69,ca316,cf,Tryz.results292]
    simp only [zW,zX,zD,builtinA,isLeaf,const1,ustrA,simprocAttr,ti3,ti9,ti36,ti69,ca316,cf,Tryz.results292,decide_eq_true h2,decide_eq_false n1,enc_take,enc_length]
    refine .inl ⟨by kernel_rfl,by kernel_rfl,?_⟩
    have htl:=txt_len v h4.ok
    refine ⟨by omega,?_⟩
    refine callD_intro (by simp only [zW,zX,zD,builtinA,isLeaf,const1,ustrA,simprocAttr,frzL_enc,Option.map_some] <;> rfl) (spec_l1Text v _ h4.ok (by omega)) ?_ rfl
    simp only [zW,zX,zD,builtinA,isLeaf,const1,ustrA,simprocAttr,ti3,ti9,ti36,ti69,ca316,cf,Tryz.results292]
    refine ⟨by omega,by simp [txtI]⟩
  | va n v =>
    obtain ⟨rfl,h2,h3,h4⟩:=h
    have n1 : ¬ x.kind = 1:=by omega
    have n2 : ¬ x.kind = 2:=by omega
    have hc:=h4.cnt
    rw [h3]
    refine acalls_enter (cf:=cf 25 [0,1,2,4,5,9]) foll Tryz.func292 Tryz.ntmps292 (by simp [cf]) ?_
    simp only [Tryz.f292,EnterK_some,zW,zX,zD,builtinA,isLeaf,const1,ustrA,simprocAttr,ti3,ti9,ti36,ti69,ca316,cf,Tryz.results292]
    simp only [zW,zX,zD,builtinA,isLeaf,const1,ustrA,simprocAttr,ti3,ti9,ti36,ti69,ca316,cf,Tryz.results292,decide_eq_false n2,decide_eq_false n1,enc_take,enc_length]
    refine .inl ⟨by kernel_rfl,by kernel_rfl,?_⟩
    have htl:=txt_len v h4.ok
    refine ⟨by omega,?_⟩
    refine callD_intro (by simp only [zW,zX,zD,builtinA,isLeaf,const1,ustrA,simprocAttr,frzL_enc,Option.map_some] <;> rfl) (spec_l1Text v _ h4.ok (by omega)) ?_ rfl
    simp only [zW,zX,zD,builtinA,isLeaf,const1,ustrA,simprocAttr,ti3,ti9,ti36,ti69,ca316,cf,Tryz.results292]
    refine ⟨by omega,by simp [txtI]⟩
set_option maxRecDepth 100000 in
theorem spec_l2Sig (s : List SigI) (ys : List VI) (h8 : s.length ≤ 8) (h : ReadsTo s ys) (A : List Box) : ACalls Tryz.prog 264 [.slice (sEs s)] A (fun r A'=>r = .str (txtS ys) ∧ A' = A):=by
  have hyl:=h.1
  have hbl:=bodyN_len (ys:=ys) (fun k hk=>by
    obtain ⟨a1,a2⟩:=h.2 k (by omega)
    obtain ⟨a3,a4⟩:=itemOf_ok a2
    exact txtI_len a4 (by rw [a3]; exact local_one a1))
  refine acalls_enter (cf:=cf 24 [0,2,3,4,8,12]) foll Tryz.func264 Tryz.ntmps264 (by simp [cf]) ?_
  simp only [Tryz.f264,EnterK_some,zW,zX,zD,builtinA,isLeaf,const1,ustrA,simprocAttr,ti3,ti9,ti50,ti69,ca292,cf,Tryz.results264]
  refine aloop_intro [0,3,4] (fun e A'=>∃ i,i ≤ s.length ∧ e = [(0,.slice (sEs s)),(3,.str ([123] ++ bodyN ys i)),(4,.int .i64 (i : Nat))] ∧ A' = A) (fun e _=>s.length - (intOf (Abs.look 4 e)).toNat) ?_ ?_
  · simp only [zW,zX,zD,builtinA,isLeaf,const1,ustrA,simprocAttr,ti3,ti9,ti50,ti69,ca292,cf,Tryz.results264]
    exact ⟨0,by omega,rfl⟩
  · rintro e A' ⟨i,hi,rfl,rfl⟩
    have hb1:=hbl i (by omega)
    by_cases hlt : i < s.length
    · have d1 : decide ((i : Int) < (s.length : Int)) = true:=by simp; omega
      have hlt' : 0 ≤ (i : Int) ∧ (i : Int) < (s.length : Int):=by omega
      have hg:=sEs_getD hlt
      have hb2:=hbl (i + 1) (by omega)
      have hit:=fun A=>spec_l2Text (s.getD i si0) (ys.getD i vi0) (h.2 i hlt).1 (h.2 i hlt).2 A
      have hi1 : IntKind.i64.wrap ((i : Int) + 1) = ((i + 1 : Nat) : Int):=by rw [wrap64 (by omega) (by omega)]; rfl
      have hb : bodyN ys (i + 1) = bodyN ys i ++ (if i = 0 then [] else [59]) ++ txtI (ys.getD i vi0):=rfl
      generalize s.getD i si0 = x at *
      generalize ys.getD i vi0 = y at *
      by_cases h0 : i = 0
      · have d2 : decide ((i : Int) > 0) = false:=by simp; omega
        have d2' : decide (0 < (i : Int)) = false:=by simp; omega
        rw [if_pos h0] at hb
        simp only [zW,zX,zD,builtinA,isLeaf,const1,ustrA,simprocAttr,ti3,ti9,ti50,ti69,ca292,cf,Tryz.results264,sEs_length,d1,d2,d2',hg,sE_length,sE_take]
        refine ⟨hlt',?_⟩
        refine callK_intro (by simp only [zW,zX,zD,builtinA,isLeaf,const1,ustrA,simprocAttr,frzL_sE,Option.map_some]; rfl) (hit _) ?_ rfl; rintro v A' ⟨rfl,rfl⟩
        simp only [zW,zX,zD,builtinA,isLeaf,const1,ustrA,simprocAttr,ti3,ti9,ti50,ti69,ca292,cf,Tryz.results264,hi1,LoopK_eq]
        rw [hb] at hb2
        simp only [List.length_append,List.length_nil] at hb2
        refine ⟨by omega,⟨i + 1,by omega,by rw [hb]; simp⟩,?_⟩
        simp only [intOf]; omega
      · have d2 : decide ((i : Int) > 0) = true:=by simp; omega
        have d2' : decide (0 < (i : Int)) = true:=by simp; omega
        rw [if_neg h0] at hb
        simp only [zW,zX,zD,builtinA,isLeaf,const1,ustrA,simprocAttr,ti3,ti9,ti50,ti69,ca292,cf,Tryz.results264,sEs_length,d1,d2,d2',hg,sE_length,sE_take]
        refine ⟨by omega,hlt',?_⟩
        refine callK_intro (by simp only [zW,zX,zD,builtinA,isLeaf,const1,ustrA,simprocAttr,frzL_sE,Option.map_some]; rfl) (hit _) ?_ rfl; rintro v A' ⟨rfl,rfl⟩
        simp only [zW,zX,zD,builtinA,isLeaf,const1,ustrA,simprocAttr,ti3,ti9,ti50,ti69,ca292,cf,Tryz.results264,hi1,LoopK_eq]
        rw [hb] at hb2
        simp only [List.length_append,List.length_cons,List.length_nil] at hb2
        refine ⟨by omega,⟨i + 1,by omega,by rw [hb]; simp⟩,?_⟩
        simp only [intOf]; omega
    · have d1 : decide ((i : Int) < (s.length : Int)) = false:=by simp; omega
      have e : i = ys.length:=by omega
      subst e
      simp only [zW,zX,zD,builtinA,isLeaf,const1,ustrA,simprocAttr,ti3,ti9,ti50,ti69,ca292,cf,Tryz.results264,sEs_length,d1]
      exact ⟨by omega,by simp [txtS]⟩
theorem item_reads (x : SigI) : (∃ y,localB x.name = true ∧ ItemOf x y) ∨ itemOk x = false:=by
  cases hl : localB x.name with
  | false=>exact .inr (by simp [itemOk,hl])
  | true =>
    by_cases k1 : x.kind = 1
    · by_cases ht : x.typ = ty0
      · exact .inl ⟨.ab x.name,rfl,rfl,k1,ht⟩
      · exact .inr (by simp [itemOk,k1,ht])
    · by_cases k2 : x.kind = 2
      · rcases valid_cases x.typ with ⟨v,h1,h2⟩ | h
        · exact .inl ⟨.al x.name v,rfl,rfl,k2,h1,h2⟩
        · exact .inr (by simp [itemOk,k2,h])
      · by_cases k3 : x.kind = 3
        · rcases valid_cases x.typ with ⟨v,h1,h2⟩ | h
          · exact .inl ⟨.va x.name v,rfl,rfl,k3,h1,h2⟩
          · exact .inr (by simp [itemOk,k3,h])
        · exact .inr (by simp [itemOk,k1,k2,k3])
theorem reads_all : ∀ s : List SigI,(∃ ys,ReadsTo s ys) ∨ ∃ x ∈ s,itemOk x = false
  | []=>.inl ⟨[],rfl,fun i hi=>by simp at hi⟩
  | x :: s=>by
    rcases item_reads x with ⟨y,h1,h2⟩ | h
    · rcases reads_all s with ⟨ys,h3,h4⟩ | ⟨z,h5,h6⟩
      · refine .inl ⟨y :: ys,by simp [h3],fun i hi=>?_⟩
        cases i with
        | zero=>exact ⟨h1,h2⟩
        | succ i=>simpa using h4 i (by simpa using hi)
      · exact .inr ⟨z,.tail _ h5,h6⟩
    · exact .inr ⟨x,.head _,h⟩
def TxtIs (s : List SigI) (t : List UInt8) : Prop:=(∃ ys,s.length ≤ 8 ∧ ReadsTo s ys ∧ ordB ys = true ∧ t = txtS ys) ∨ (sigB s = false ∧ t = [])
theorem txtIs_ex (a : List SigI) : ∃ t,TxtIs a t:=by
  by_cases h8 : a.length ≤ 8
  · rcases reads_all a with ⟨ys,hr⟩ | hb
    · cases hb : ordB ys with
      | true=>exact ⟨_,.inl ⟨ys,h8,hr,hb,rfl⟩⟩
      | false=>exact ⟨_,.inr ⟨by rw [sigB_reads h8 hr,hb],rfl⟩⟩
    · exact ⟨_,.inr ⟨sigB_bad (.inr hb),rfl⟩⟩
  · exact ⟨_,.inr ⟨sigB_bad (.inl (by omega)),rfl⟩⟩
end Go.Proofs.YtnjdbgiincliaaaGreat
/- The model's FormatSig. -/
set_option linter.unusedVariables false
set_option linter.unusedSimpArgs false
namespace Go.Proofs.YtnjdbgiincliaaaGreat
open Go.Abs
set_option maxRecDepth 100000 in
theorem spec_FormatSig (s : List SigI) (hs : s.length ≤ 1048576) (ho : ∀ x ∈ s,x.Ok ∧ sz x.typ ≤ 1048576) (t : List UInt8)
    (ht : TxtIs s t) (A : List Box) : ACalls Tryz.prog 202 [.slice (sEs s)] A (fun r A'=>r = .str t ∧ A' = A):=by
  refine acalls_enter (cf:=cf 8 [0,2,5]) foll Tryz.func202 Tryz.ntmps202 (by simp [cf]) ?_
  simp only [Tryz.f202,EnterK_some,zW,zX,zD,builtinA,isLeaf,const1,ustrA,simprocAttr,ca87,ca264,cf,Tryz.results202]
  refine callK_intro (by simp only [zW,zX,zD,builtinA,isLeaf,const1,ustrA,simprocAttr,Option.map_some]; rfl) (spec_SigValid s hs ho _) ?_ rfl; rintro v A' ⟨rfl,rfl⟩
  rcases ht with ⟨ys,h8,hr,hb,rfl⟩ | ⟨hb,rfl⟩
  · have hv : sigB s = true:=by rw [sigB_reads h8 hr,hb]
    simp only [zW,zX,zD,builtinA,isLeaf,const1,ustrA,simprocAttr,ca87,ca264,cf,Tryz.results202,hv,Bool.not_true]
    refine callK_intro (by simp only [zW,zX,zD,builtinA,isLeaf,const1,ustrA,simprocAttr,Option.map_some]; rfl) (spec_l2Sig s ys h8 hr _) ?_ rfl; rintro v A' ⟨rfl,rfl⟩
    simp only [zW,zX,zD,builtinA,isLeaf,const1,ustrA,simprocAttr,ca87,ca264,cf,Tryz.results202]
  · simp only [zW,zX,zD,builtinA,isLeaf,const1,ustrA,simprocAttr,ca87,ca264,cf,Tryz.results202,hb,Bool.not_false]
end Go.Proofs.YtnjdbgiincliaaaGreat
/- Reading a type from a text, as a function. -/
set_option linter.unusedVariables false
set_option linter.unusedSimpArgs false
namespace Go.Proofs.YtnjdbgiincliaaaGreat
open Go.Abs
def pName : List UInt8 → Option (VT × Nat)
  | []=>none
  | c :: s=>if moduleB [c] = true then (match s with
      | e :: d :: _=>if e = 46 ∧ localB [d] = true then some (.nm [c] [d],3) else none
      | _=>none)
    else if localB [c] = true then some (.nm [] [c],1) else none
def pFun (p : List UInt8 → Option (VT × Nat)) (s : List UInt8) : Option (VT × Nat) :=
  match p s with
  | none=>none
  | some (a,k)=>if s[k]? = some 62 then (match p (s.drop (k + 1)) with
      | none=>none
      | some (b,l)=>if s[k + 1 + l]? = some 41 then some (.fn a b,k + 1 + l + 1) else none) else none
def pTy : Nat → List UInt8 → Option (VT × Nat)
  | 0,_=>none
  | d + 1,[]=>none
  | d + 1,c :: s=>if c = 73 then some (.num,1) else if c = 40 then (pFun (pTy d) s).map fun x=>(x.1,x.2 + 1) else pName (c :: s)
theorem pName_sound {s : List UInt8} {v : VT} {k : Nat} (h : pName s = some (v,k)) : 1 ≤ k ∧ k ≤ s.length ∧ txt v = s.take k ∧ okV v = true ∧ dep v ≤ 1:=by
  match s,h with
  | [],h=>simp [pName] at h
  | [c],h =>
    simp only [pName] at h
    split at h
    · cases h
    · split at h
      · rename_i h2
        cases h
        exact ⟨by omega,by simp,by simp [txt,path],by simp [okV,nmB,h2],by simp [dep]⟩
      · cases h
  | [c,e],h =>
    simp only [pName] at h
    split at h
    · cases h
    · split at h
      · rename_i h2
        cases h
        exact ⟨by omega,by simp,by simp [txt,path],by simp [okV,nmB,h2],by simp [dep]⟩
      · cases h
  | c :: e :: d :: s,h =>
    simp only [pName] at h
    split at h
    · rename_i h1
      split at h
      · rename_i h2
        cases h
        exact ⟨by omega,by simp,by simp [txt,path,h2.1],by simp [okV,nmB,h1,h2.2],by simp [dep]⟩
      · cases h
    · split at h
      · rename_i h2
        cases h
        exact ⟨by omega,by simp,by simp [txt,path],by simp [okV,nmB,h2],by simp [dep]⟩
      · cases h
theorem getE {s : List UInt8} {k : Nat} {c : UInt8} (h : s[k]? = some c) : k < s.length ∧ s.take (k + 1) = s.take k ++ [c]:=by
  obtain ⟨h1,h2⟩:=List.getElem?_eq_some_iff.1 h
  exact ⟨h1,by rw [List.take_add_one,h]; rfl⟩
theorem pTy_sound : ∀ (d : Nat) {s : List UInt8} {v : VT} {k : Nat},pTy d s = some (v,k) → 1 ≤ k ∧ k ≤ s.length ∧ txt v = s.take k ∧ okV v = true ∧ dep v ≤ d
  | 0,s,v,k,h=>by simp [pTy] at h
  | d + 1,[],v,k,h=>by simp [pTy] at h
  | d + 1,c :: s,v,k,h=>by
    simp only [pTy] at h
    split at h
    · rename_i hc
      cases h
      exact ⟨by omega,by simp,by simp [txt,hc],rfl,by simp [dep]⟩
    · split at h
      · rename_i hc
        subst hc
        cases hf : pFun (pTy d) s with
        | none=>rw [hf] at h; cases h
        | some x =>
          rw [hf] at h
          obtain ⟨w,j⟩:=x
          simp only [Option.map_some,Option.some.injEq,Prod.mk.injEq] at h
          obtain ⟨rfl,rfl⟩:=h
          unfold pFun at hf
          split at hf
          · cases hf
          · rename_i a k1 ha
            split at hf
            · rename_i h1
              split at hf
              · cases hf
              · rename_i b l hb
                split at hf
                · rename_i h2
                  cases hf
                  obtain ⟨a1,a2,a3,a4,a5⟩:=pTy_sound d ha
                  obtain ⟨b1,b2,b3,b4,b5⟩:=pTy_sound d hb
                  obtain ⟨e1,e2⟩:=getE h1
                  obtain ⟨f1,f2⟩:=getE h2
                  refine ⟨by omega,by simp; omega,?_,by simp [okV,a4,b4],by simp [dep]; omega⟩
                  have e3 : s.take (k1 + 1 + l) = s.take (k1 + 1) ++ (s.drop (k1 + 1)).take l:=by rw [List.take_add]
                  rw [txt,a3,b3,List.take_succ_cons,f2,e3,e2]
                  simp
                · cases hf
            · cases hf
      · obtain ⟨a1,a2,a3,a4,a5⟩:=pName_sound h
        exact ⟨a1,a2,a3,a4,by omega⟩
end Go.Proofs.YtnjdbgiincliaaaGreat
/- The model's reading of types. -/
set_option linter.unusedVariables false
set_option linter.unusedSimpArgs false
namespace Go.Proofs.YtnjdbgiincliaaaGreat
open Go.Abs
theorem take_snoc' {s : List UInt8} {i : Nat} (h : i < s.length) : s.take (i + 1) = s.take i ++ [s.getD i 0]:=by
  rw [List.take_add_one]; simp [List.getD,h]
def signB (s : List UInt8) (at' : Int) (c : UInt8) : Bool:=decide (0 ≤ at') && decide (s[at'.toNat]? = some c)
theorem u8_eq (a b : UInt8) : decide ((a.toNat : Int) = (b.toNat : Int)) = decide (a = b):=by
  rw [Bool.eq_iff_iff]
  simp only [decide_eq_true_eq]
  constructor
  · intro h; exact UInt8.toNat.inj (by omega)
  · intro h; rw [h]
set_option maxRecDepth 100000 in
theorem spec_l1Sign (s : List UInt8) (at' : Int) (c : UInt8) (A : List Box) : ACalls Tryz.prog 262 [.str s,.int .i64 at',.int .u8 (c.toNat : Nat)] A (fun r A'=>r = .bool (signB s at' c) ∧ A' = A):=by
  refine acalls_enter (cf:=cf 22 [0,1,2,6]) foll Tryz.func262 Tryz.ntmps262 (by simp [cf]) ?_
  simp only [Tryz.f262,EnterK_some,zW,zX,zD,builtinA,isLeaf,const1,Nat.reduceAdd,Nat.reduceMul,Nat.reduceSub,Nat.reduceLT,Nat.reduceLeDiff,Nat.reduceEqDiff,Nat.reduceBEq,Nat.reduceBNe,reduceIte,reduceCtorEq,Int.reduceToNat,Int.reduceLT,Int.reduceLE,Int.reduceEq,Int.reduceNe,Int.reduceNeg,ustrA,ti3,ti5,ti9,cf,Tryz.results262]
  by_cases h0 : 0 ≤ at'
  · simp only [zW,zX,zD,builtinA,isLeaf,const1,Nat.reduceAdd,Nat.reduceMul,Nat.reduceSub,Nat.reduceLT,Nat.reduceLeDiff,Nat.reduceEqDiff,Nat.reduceBEq,Nat.reduceBNe,reduceIte,reduceCtorEq,Int.reduceToNat,Int.reduceLT,Int.reduceLE,Int.reduceEq,Int.reduceNe,Int.reduceNeg,ustrA,ti3,ti5,ti9,cf,Tryz.results262,decide_eq_true h0]
    by_cases h1 : at' < (s.length : Int)
    · simp only [zW,zX,zD,builtinA,isLeaf,const1,Nat.reduceAdd,Nat.reduceMul,Nat.reduceSub,Nat.reduceLT,Nat.reduceLeDiff,Nat.reduceEqDiff,Nat.reduceBEq,Nat.reduceBNe,reduceIte,reduceCtorEq,Int.reduceToNat,Int.reduceLT,Int.reduceLE,Int.reduceEq,Int.reduceNe,Int.reduceNeg,ustrA,ti3,ti5,ti9,cf,Tryz.results262,decide_eq_true h1]
      refine ⟨⟨h0,h1⟩,?_⟩
      have hi : at'.toNat < s.length:=by omega
      have hg : s[at'.toNat]? = some (s.getD at'.toNat 0):=by simp [List.getD,hi]
      rw [u8_eq,signB,decide_eq_true h0,Bool.true_and,hg]
      simp
    · simp only [zW,zX,zD,builtinA,isLeaf,const1,Nat.reduceAdd,Nat.reduceMul,Nat.reduceSub,Nat.reduceLT,Nat.reduceLeDiff,Nat.reduceEqDiff,Nat.reduceBEq,Nat.reduceBNe,reduceIte,reduceCtorEq,Int.reduceToNat,Int.reduceLT,Int.reduceLE,Int.reduceEq,Int.reduceNe,Int.reduceNeg,ustrA,ti3,ti5,ti9,cf,Tryz.results262,decide_eq_false h1]
      have : s[at'.toNat]? = none:=by simp; omega
      simp [signB,this]
  · simp only [zW,zX,zD,builtinA,isLeaf,const1,Nat.reduceAdd,Nat.reduceMul,Nat.reduceSub,Nat.reduceLT,Nat.reduceLeDiff,Nat.reduceEqDiff,Nat.reduceBEq,Nat.reduceBNe,reduceIte,reduceCtorEq,Int.reduceToNat,Int.reduceLT,Int.reduceLE,Int.reduceEq,Int.reduceNe,Int.reduceNeg,ustrA,ti3,ti5,ti9,cf,Tryz.results262,decide_eq_false h0]
    simp [signB,h0]
set_option maxRecDepth 100000 in
theorem pspec_l1Num (A : List Box) : ACalls Tryz.prog 189 [] A (fun r A'=>r = .agg (enc (toTy .num)) ∧ A' = A):=by
  refine acalls_enter (cf:=cf 2 [0]) foll Tryz.func189 Tryz.ntmps189 (by simp [cf]) ?_
  simp only [Tryz.f189,EnterK_some,zW,zX,zD,builtinA,isLeaf,const1,Nat.reduceAdd,Nat.reduceMul,Nat.reduceSub,Nat.reduceLT,Nat.reduceLeDiff,Nat.reduceEqDiff,Nat.reduceBEq,Nat.reduceBNe,reduceIte,reduceCtorEq,Int.reduceToNat,Int.reduceLT,Int.reduceLE,Int.reduceEq,Int.reduceNe,Int.reduceNeg,ustrA,ti36,cf,Tryz.results189]
  simp [toTy,enc,encs]
set_option maxRecDepth 100000 in
theorem pspec_l1Name (m n : List UInt8) (A : List Box) : ACalls Tryz.prog 188 [.str m,.str n] A (fun r A'=>r = .agg (enc (.mk 3 m n [])) ∧ A' = A):=by
  refine acalls_enter (cf:=cf 8 [0,1,4]) foll Tryz.func188 Tryz.ntmps188 (by simp [cf]) ?_
  simp only [Tryz.f188,EnterK_some,zW,zX,zD,builtinA,isLeaf,const1,Nat.reduceAdd,Nat.reduceMul,Nat.reduceSub,Nat.reduceLT,Nat.reduceLeDiff,Nat.reduceEqDiff,Nat.reduceBEq,Nat.reduceBNe,reduceIte,reduceCtorEq,Int.reduceToNat,Int.reduceLT,Int.reduceLE,Int.reduceEq,Int.reduceNe,Int.reduceNeg,ustrA,ti36,cf,Tryz.results188]
  simp [enc,encs]
set_option maxRecDepth 100000 in
theorem pspec_l1Fun (a b : Ty) (A : List Box) : ACalls Tryz.prog 256 [.agg (enc a),.agg (enc b)] A (fun r A'=>r = .agg (enc (.mk 2 [] [] [a,b])) ∧ A' = A):=by
  refine acalls_enter (cf:=cf 9 [0,1,2,3,4]) foll Tryz.func256 Tryz.ntmps256 (by simp [cf]) ?_
  simp only [Tryz.f256,EnterK_some,zW,zX,zD,builtinA,isLeaf,const1,Nat.reduceAdd,Nat.reduceMul,Nat.reduceSub,Nat.reduceLT,Nat.reduceLeDiff,Nat.reduceEqDiff,Nat.reduceBEq,Nat.reduceBNe,reduceIte,reduceCtorEq,Int.reduceToNat,Int.reduceLT,Int.reduceLE,Int.reduceEq,Int.reduceNe,Int.reduceNeg,ustrA,ti34,ti36,cf,Tryz.results256]
  simp only [zW,zX,zD,builtinA,isLeaf,const1,Nat.reduceAdd,Nat.reduceMul,Nat.reduceSub,Nat.reduceLT,Nat.reduceLeDiff,Nat.reduceEqDiff,Nat.reduceBEq,Nat.reduceBNe,reduceIte,reduceCtorEq,Int.reduceToNat,Int.reduceLT,Int.reduceLE,Int.reduceEq,Int.reduceNe,Int.reduceNeg,ustrA,ti34,ti36,cf,Tryz.results256,enc_length,enc_take,frzL_enc,Option.map_some]
  refine ⟨⟨fun v hv=>enc_leaf _ v hv,fun v hv=>enc_leaf _ v hv⟩,?_⟩
  simp [enc,encs]
def dres (at' : Nat) : Option (VT × Nat) → AV → Prop
  | some (.nm m n,k),r=>r = .tuple [.str m,.str n,.int .i64 ((at' + k : Nat) : Int)]
  | some _,_=>False
  | none,r=>r = .tuple [.str [],.str [],.int .i64 (-1)]
theorem slice1 {s : List UInt8} {i : Nat} (h : i < s.length) : (s.take (i + 1)).drop i = [s.getD i 0]:=by
  rw [take_snoc' h,List.drop_append_of_le_length (by simp; omega),List.drop_of_length_le (by simp; omega)]
  rfl
theorem loc_mod {c : List UInt8} (h : localB c = true) : moduleB c = false:=by
  simp only [localB,Bool.and_eq_true,decide_eq_true_eq,beq_iff_eq] at h
  simp only [moduleB]
  have : decide ((c.getD 0 0).toNat ≤ 90) = false:=decide_eq_false (by omega)
  rw [this]; simp
theorem pName_at {s : List UInt8} {i : Nat} (h : i < s.length) : pName (s.drop i) = if localB [s.getD i 0] = true then some (.nm [] [s.getD i 0],1)
    else if moduleB [s.getD i 0] = true ∧ s[i + 1]? = some 46 ∧ i + 2 < s.length ∧ localB [s.getD (i + 2) 0] = true then some (.nm [s.getD i 0] [s.getD (i + 2) 0],3) else none:=by
  have hd : s.drop i = s.getD i 0 :: s.drop (i + 1):=by
    have : s.getD i 0 = s[i]:=by simp [List.getD,h]
    rw [this,List.getElem_cons_drop h]
  rw [hd]
  clear hd
  generalize s.getD i 0 = c
  by_cases hl : localB [c] = true
  · rw [if_pos hl]
    have:=loc_mod hl
    simp [pName,hl,this]
  · have hl' : localB [c] = false:=by simpa using hl
    rw [if_neg hl]
    by_cases hm : moduleB [c] = true
    · by_cases h1 : i + 1 < s.length
      · have hd1 : s.drop (i + 1) = s.getD (i + 1) 0 :: s.drop (i + 2):=by
          have : s.getD (i + 1) 0 = s[i + 1]:=by simp [List.getD,h1]
          rw [this,List.getElem_cons_drop h1]
        have hg1 : s[i + 1]? = some (s.getD (i + 1) 0):=by simp [List.getD,h1]
        by_cases h2 : i + 2 < s.length
        · have hd2 : s.drop (i + 2) = s.getD (i + 2) 0 :: s.drop (i + 3):=by
            have : s.getD (i + 2) 0 = s[i + 2]:=by simp [List.getD,h2]
            rw [this,List.getElem_cons_drop h2]
          rw [hd1,hd2,hg1]
          simp only [pName,hm,if_true,h2,true_and,Option.some.injEq]
        · have hd2 : s.drop (i + 2) = []:=by simp; omega
          rw [hd1,hd2]
          simp [pName,hm,h2]
      · have hd1 : s.drop (i + 1) = []:=by simp; omega
        have : ¬ i + 2 < s.length:=by omega
        rw [hd1]
        simp [pName,hm,this]
    · have hm' : moduleB [c] = false:=by simpa using hm
      simp [pName,hl',hm']
set_option maxRecDepth 100000 in
theorem spec_l1Dotted (s : List UInt8) (hs : s.length ≤ 1100000) (at' : Nat) (h : at' < s.length) (A : List Box) : ACalls Tryz.prog 315 [.str s,.int .i64 (at' : Int)] A (fun r A'=>dres at' (pName (s.drop at')) r ∧ A' = A):=by
  have e0 : decide ((at' : Int) < 0) = false:=decide_eq_false (by omega)
  have e1 : decide ((s.length : Int) ≤ (at' : Int)) = false:=decide_eq_false (by omega)
  have w1 : IntKind.i64.wrap ((at' : Int) + 1) = ((at' + 1 : Nat) : Int):=by rw [wrap64 (by omega) (by omega)]; omega
  have w2 : IntKind.i64.wrap ((at' : Int) + 2) = ((at' + 2 : Nat) : Int):=by rw [wrap64 (by omega) (by omega)]; omega
  have w3 : IntKind.i64.wrap ((at' : Int) + 3) = ((at' + 3 : Nat) : Int):=by rw [wrap64 (by omega) (by omega)]; omega
  refine acalls_enter (cf:=cf 69 [0,1,4,5,6,14,20,55]) foll Tryz.func315 Tryz.ntmps315 (by simp [cf]) ?_
  simp only [Tryz.f315,EnterK_some,zW,zX,zD,builtinA,isLeaf,const1,Nat.reduceAdd,Nat.reduceMul,Nat.reduceSub,Nat.reduceLT,Nat.reduceLeDiff,Nat.reduceEqDiff,Nat.reduceBEq,Nat.reduceBNe,reduceIte,reduceCtorEq,Int.reduceToNat,Int.reduceLT,Int.reduceLE,Int.reduceEq,Int.reduceNe,Int.reduceNeg,ustrA,ti3,ti9,ca104,ca245,ca262,cf,Tryz.results315]
  simp only [zW,zX,zD,builtinA,isLeaf,const1,Nat.reduceAdd,Nat.reduceMul,Nat.reduceSub,Nat.reduceLT,Nat.reduceLeDiff,Nat.reduceEqDiff,Nat.reduceBEq,Nat.reduceBNe,reduceIte,reduceCtorEq,Int.reduceToNat,Int.reduceLT,Int.reduceLE,Int.reduceEq,Int.reduceNe,Int.reduceNeg,ustrA,ti3,ti9,ca104,ca245,ca262,cf,Tryz.results315,e0,e1,w1,w2,w3]
  refine ⟨⟨by omega,by omega,by omega⟩,?_⟩
  rw [slice1 h,pName_at h]
  refine callK_intro (by simp only [zW,zX,zD,builtinA,isLeaf,const1,Nat.reduceAdd,Nat.reduceMul,Nat.reduceSub,Nat.reduceLT,Nat.reduceLeDiff,Nat.reduceEqDiff,Nat.reduceBEq,Nat.reduceBNe,reduceIte,reduceCtorEq,Int.reduceToNat,Int.reduceLT,Int.reduceLE,Int.reduceEq,Int.reduceNe,Int.reduceNeg,ustrA,Option.map_some]; rfl) (spec_LocalName _ _) ?_ rfl; rintro v A' ⟨rfl,rfl⟩
  by_cases hl : localB [s.getD at' 0] = true
  · rw [if_pos hl,hl]
    simp only [zW,zX,zD,builtinA,isLeaf,const1,Nat.reduceAdd,Nat.reduceMul,Nat.reduceSub,Nat.reduceLT,Nat.reduceLeDiff,Nat.reduceEqDiff,Nat.reduceBEq,Nat.reduceBNe,reduceIte,reduceCtorEq,Int.reduceToNat,Int.reduceLT,Int.reduceLE,Int.reduceEq,Int.reduceNe,Int.reduceNeg,ustrA,ti3,ti9,ca104,ca245,ca262,cf,Tryz.results315,w1]
    refine .inl ⟨by kernel_rfl,by kernel_rfl,⟨by omega,by omega,by omega⟩,?_⟩
    rw [slice1 h]
    simp [dres]
  · have hl' : localB [s.getD at' 0] = false:=by simpa using hl
    rw [if_neg hl,hl']
    simp only [zW,zX,zD,builtinA,isLeaf,const1,Nat.reduceAdd,Nat.reduceMul,Nat.reduceSub,Nat.reduceLT,Nat.reduceLeDiff,Nat.reduceEqDiff,Nat.reduceBEq,Nat.reduceBNe,reduceIte,reduceCtorEq,Int.reduceToNat,Int.reduceLT,Int.reduceLE,Int.reduceEq,Int.reduceNe,Int.reduceNeg,ustrA,ti3,ti9,ca104,ca245,ca262,cf,Tryz.results315,w1]
    refine ⟨⟨by omega,by omega,by omega⟩,?_⟩
    rw [slice1 h]
    refine callK_intro (by simp only [zW,zX,zD,builtinA,isLeaf,const1,Nat.reduceAdd,Nat.reduceMul,Nat.reduceSub,Nat.reduceLT,Nat.reduceLeDiff,Nat.reduceEqDiff,Nat.reduceBEq,Nat.reduceBNe,reduceIte,reduceCtorEq,Int.reduceToNat,Int.reduceLT,Int.reduceLE,Int.reduceEq,Int.reduceNe,Int.reduceNeg,ustrA,Option.map_some]; rfl) (spec_ModuleName _ _) ?_ rfl; rintro v A' ⟨rfl,rfl⟩
    by_cases hm : moduleB [s.getD at' 0] = true
    · rw [hm]
      simp only [zW,zX,zD,builtinA,isLeaf,const1,Nat.reduceAdd,Nat.reduceMul,Nat.reduceSub,Nat.reduceLT,Nat.reduceLeDiff,Nat.reduceEqDiff,Nat.reduceBEq,Nat.reduceBNe,reduceIte,reduceCtorEq,Int.reduceToNat,Int.reduceLT,Int.reduceLE,Int.reduceEq,Int.reduceNe,Int.reduceNeg,ustrA,ti3,ti9,ca104,ca245,ca262,cf,Tryz.results315,w1]
      refine callK_intro (by simp only [zW,zX,zD,builtinA,isLeaf,const1,Nat.reduceAdd,Nat.reduceMul,Nat.reduceSub,Nat.reduceLT,Nat.reduceLeDiff,Nat.reduceEqDiff,Nat.reduceBEq,Nat.reduceBNe,reduceIte,reduceCtorEq,Int.reduceToNat,Int.reduceLT,Int.reduceLE,Int.reduceEq,Int.reduceNe,Int.reduceNeg,ustrA,Option.map_some]; rfl) (spec_l1Sign s ((at' + 1 : Nat) : Int) 46 _) ?_ rfl; rintro v A' ⟨rfl,rfl⟩
      have hsg : signB s ((at' + 1 : Nat) : Int) 46 = decide (s[at' + 1]? = some 46):=by
        have : decide ((0 : Int) ≤ ((at' + 1 : Nat) : Int)) = true:=decide_eq_true (by omega)
        rw [signB,this,Bool.true_and]; rfl
      rw [hsg]
      by_cases h1 : s[at' + 1]? = some 46
      · by_cases h2 : at' + 2 < s.length
        · have d2 : decide (((at' + 2 : Nat) : Int) < (s.length : Int)) = true:=decide_eq_true (by omega)
          simp only [zW,zX,zD,builtinA,isLeaf,const1,Nat.reduceAdd,Nat.reduceMul,Nat.reduceSub,Nat.reduceLT,Nat.reduceLeDiff,Nat.reduceEqDiff,Nat.reduceBEq,Nat.reduceBNe,reduceIte,reduceCtorEq,Int.reduceToNat,Int.reduceLT,Int.reduceLE,Int.reduceEq,Int.reduceNe,Int.reduceNeg,ustrA,ti3,ti9,ca104,ca245,ca262,cf,Tryz.results315,decide_eq_true h1,w2,w3,d2]
          refine ⟨⟨by omega,by omega,by omega⟩,?_⟩
          rw [slice1 h2]
          refine callK_intro (by simp only [zW,zX,zD,builtinA,isLeaf,const1,Nat.reduceAdd,Nat.reduceMul,Nat.reduceSub,Nat.reduceLT,Nat.reduceLeDiff,Nat.reduceEqDiff,Nat.reduceBEq,Nat.reduceBNe,reduceIte,reduceCtorEq,Int.reduceToNat,Int.reduceLT,Int.reduceLE,Int.reduceEq,Int.reduceNe,Int.reduceNeg,ustrA,Option.map_some]; rfl) (spec_LocalName _ _) ?_ rfl; rintro v A' ⟨rfl,rfl⟩
          by_cases hn : localB [s.getD (at' + 2) 0] = true
          · rw [hn,if_pos ⟨h1,h2,rfl⟩]
            simp only [zW,zX,zD,builtinA,isLeaf,const1,Nat.reduceAdd,Nat.reduceMul,Nat.reduceSub,Nat.reduceLT,Nat.reduceLeDiff,Nat.reduceEqDiff,Nat.reduceBEq,Nat.reduceBNe,reduceIte,reduceCtorEq,Int.reduceToNat,Int.reduceLT,Int.reduceLE,Int.reduceEq,Int.reduceNe,Int.reduceNeg,ustrA,ti3,ti9,ca104,ca245,ca262,cf,Tryz.results315,w1,w2,w3]
            refine .inl ⟨by kernel_rfl,by kernel_rfl,⟨by omega,by omega,by omega⟩,⟨by omega,by omega,by omega⟩,?_⟩
            rw [slice1 h,slice1 h2]
            simp [dres]
          · have hn' : localB [s.getD (at' + 2) 0] = false:=by simpa using hn
            rw [hn',if_neg (fun h=>by simp at h)]
            simp only [zW,zX,zD,builtinA,isLeaf,const1,Nat.reduceAdd,Nat.reduceMul,Nat.reduceSub,Nat.reduceLT,Nat.reduceLeDiff,Nat.reduceEqDiff,Nat.reduceBEq,Nat.reduceBNe,reduceIte,reduceCtorEq,Int.reduceToNat,Int.reduceLT,Int.reduceLE,Int.reduceEq,Int.reduceNe,Int.reduceNeg,ustrA,ti3,ti9,ca104,ca245,ca262,cf,Tryz.results315]
            simp [dres]
        · have d2 : decide (((at' + 2 : Nat) : Int) < (s.length : Int)) = false:=decide_eq_false (by omega)
          rw [if_neg (fun h=>h2 h.2.1)]
          simp only [zW,zX,zD,builtinA,isLeaf,const1,Nat.reduceAdd,Nat.reduceMul,Nat.reduceSub,Nat.reduceLT,Nat.reduceLeDiff,Nat.reduceEqDiff,Nat.reduceBEq,Nat.reduceBNe,reduceIte,reduceCtorEq,Int.reduceToNat,Int.reduceLT,Int.reduceLE,Int.reduceEq,Int.reduceNe,Int.reduceNeg,ustrA,ti3,ti9,ca104,ca245,ca262,cf,Tryz.results315,decide_eq_true h1,w2,w3,d2]
          simp [dres]
      · rw [if_neg (fun h=>h1 h.1)]
        simp only [zW,zX,zD,builtinA,isLeaf,const1,Nat.reduceAdd,Nat.reduceMul,Nat.reduceSub,Nat.reduceLT,Nat.reduceLeDiff,Nat.reduceEqDiff,Nat.reduceBEq,Nat.reduceBNe,reduceIte,reduceCtorEq,Int.reduceToNat,Int.reduceLT,Int.reduceLE,Int.reduceEq,Int.reduceNe,Int.reduceNeg,ustrA,ti3,ti9,ca104,ca245,ca262,cf,Tryz.results315,decide_eq_false h1]
        simp [dres]
    · have hm' : moduleB [s.getD at' 0] = false:=by simpa using hm
      rw [hm',if_neg (fun h=>by simp at h)]
      simp only [zW,zX,zD,builtinA,isLeaf,const1,Nat.reduceAdd,Nat.reduceMul,Nat.reduceSub,Nat.reduceLT,Nat.reduceLeDiff,Nat.reduceEqDiff,Nat.reduceBEq,Nat.reduceBNe,reduceIte,reduceCtorEq,Int.reduceToNat,Int.reduceLT,Int.reduceLE,Int.reduceEq,Int.reduceNe,Int.reduceNeg,ustrA,ti3,ti9,ca104,ca245,ca262,cf,Tryz.results315]
      simp [dres]
theorem encC (n : Nat) (t : Ty) : (enc t).all (closed1 n) = true:=List.all_eq_true.2 fun x hx=>leaf_closed1 (enc_leaf t x hx)
def pres' (s : List UInt8) (at' : Nat) : Option (VT × Nat) → AV → Prop
  | some (v,k),r=>r = .tuple [.agg (enc (toTy v)),.int .i64 ((at' + k : Nat) : Int)]
  | none,r=>∃ τ,(τ = ty0 ∨ τ = .mk 3 [] [] []) ∧ r = .tuple [.agg (enc τ),.int .i64 (-1)]
def ParseS (d : Nat) : Prop:=∀ (s : List UInt8) (at' : Nat) (A : List Box),s.length ≤ 1100000 → at' ≤ s.length → ACalls Tryz.prog 291 [.str s,.int .i64 (at' : Int),.int .i64 (d : Int)] A (fun r A'=>pres' s at' (pTy d (s.drop at')) r ∧ A' = A)
set_option maxHeartbeats 4000000 in
set_option maxRecDepth 100000 in
theorem spec_l1Parse : ∀ d,d ≤ 8 → ParseS d
  | 0,hd=>fun s at' A hs ha=>by
    have e0 : decide (((0 : Nat) : Int) < 1) = true:=rfl
    refine acalls_enter (cf:=cf 83 [0,1,2,6,7,8,9,10,11,12,13,14,26,31,38,62,76]) foll Tryz.func291 Tryz.ntmps291 (by simp [cf]) ?_
    simp only [Tryz.f291,EnterK_some,zW,zX,zD,builtinA,isLeaf,const1,Nat.reduceAdd,Nat.reduceMul,Nat.reduceSub,Nat.reduceLT,Nat.reduceLeDiff,Nat.reduceEqDiff,Nat.reduceBEq,Nat.reduceBNe,reduceIte,reduceCtorEq,Int.reduceToNat,Int.reduceLT,Int.reduceLE,Int.reduceEq,Int.reduceNe,Int.reduceNeg,ustrA,ti3,ti5,ti9,ti36,ca188,ca189,ca256,ca262,ca291,ca315,cf,Tryz.results291]
    simp only [zW,zX,zD,builtinA,isLeaf,const1,Nat.reduceAdd,Nat.reduceMul,Nat.reduceSub,Nat.reduceLT,Nat.reduceLeDiff,Nat.reduceEqDiff,Nat.reduceBEq,Nat.reduceBNe,reduceIte,reduceCtorEq,Int.reduceToNat,Int.reduceLT,Int.reduceLE,Int.reduceEq,Int.reduceNe,Int.reduceNeg,ustrA,ti3,ti5,ti9,ti36,ca188,ca189,ca256,ca262,ca291,ca315,cf,Tryz.results291,e0]
    exact ⟨ty0,.inl rfl,by simp [ty0,enc,encs]⟩
  | d + 1,hd=>fun s at' A hs ha=>by
    have ih:=spec_l1Parse d (by omega)
    have e0 : decide (((d + 1 : Nat) : Int) < 1) = false:=decide_eq_false (by omega)
    have e1 : decide ((at' : Int) < 0) = false:=decide_eq_false (by omega)
    have w1 : IntKind.i64.wrap ((at' : Int) + 1) = ((at' + 1 : Nat) : Int):=by rw [wrap64 (by omega) (by omega)]; omega
    have wd : IntKind.i64.wrap (((d + 1 : Nat) : Int) - 1) = (d : Int):=by rw [wrap64 (by omega) (by omega)]; omega
    have hz : ∀ x : Option (VT × Nat),x = none → pres' s at' x (AV.tuple [AV.agg [AV.int IntKind.i64 0,AV.str [],AV.str [],AV.slice []],AV.int IntKind.i64 (-1)]):=fun x hx=>by
      subst hx
      exact ⟨ty0,.inl rfl,by simp [ty0,enc,encs]⟩
    refine acalls_enter (cf:=cf 83 [0,1,2,6,7,8,9,10,11,12,13,14,26,31,38,62,76]) foll Tryz.func291 Tryz.ntmps291 (by simp [cf]) ?_
    simp only [Tryz.f291,EnterK_some,zW,zX,zD,builtinA,isLeaf,const1,Nat.reduceAdd,Nat.reduceMul,Nat.reduceSub,Nat.reduceLT,Nat.reduceLeDiff,Nat.reduceEqDiff,Nat.reduceBEq,Nat.reduceBNe,reduceIte,reduceCtorEq,Int.reduceToNat,Int.reduceLT,Int.reduceLE,Int.reduceEq,Int.reduceNe,Int.reduceNeg,ustrA,ti3,ti5,ti9,ti36,ca188,ca189,ca256,ca262,ca291,ca315,cf,Tryz.results291]
    by_cases h : at' < s.length
    · have e2 : decide ((s.length : Int) ≤ (at' : Int)) = false:=decide_eq_false (by omega)
      have hdr : s.drop at' = s.getD at' 0 :: s.drop (at' + 1):=by
        have : s.getD at' 0 = s[at']:=by simp [List.getD,h]
        rw [this,List.getElem_cons_drop h]
      simp only [zW,zX,zD,builtinA,isLeaf,const1,Nat.reduceAdd,Nat.reduceMul,Nat.reduceSub,Nat.reduceLT,Nat.reduceLeDiff,Nat.reduceEqDiff,Nat.reduceBEq,Nat.reduceBNe,reduceIte,reduceCtorEq,Int.reduceToNat,Int.reduceLT,Int.reduceLE,Int.reduceEq,Int.reduceNe,Int.reduceNeg,ustrA,ti3,ti5,ti9,ti36,ca188,ca189,ca256,ca262,ca291,ca315,cf,Tryz.results291,e0,e1,e2]
      refine ⟨⟨by omega,by omega⟩,?_⟩
      have h73 : decide (((s.getD at' 0).toNat : Int) = 73) = decide (s.getD at' 0 = 73):=u8_eq _ 73
      have h40 : decide (((s.getD at' 0).toNat : Int) = 40) = decide (s.getD at' 0 = 40):=u8_eq _ 40
      rw [h73]
      by_cases c73 : s.getD at' 0 = 73
      · simp only [zW,zX,zD,builtinA,isLeaf,const1,Nat.reduceAdd,Nat.reduceMul,Nat.reduceSub,Nat.reduceLT,Nat.reduceLeDiff,Nat.reduceEqDiff,Nat.reduceBEq,Nat.reduceBNe,reduceIte,reduceCtorEq,Int.reduceToNat,Int.reduceLT,Int.reduceLE,Int.reduceEq,Int.reduceNe,Int.reduceNeg,ustrA,ti3,ti5,ti9,ti36,ca188,ca189,ca256,ca262,ca291,ca315,cf,Tryz.results291,decide_eq_true c73]
        refine callK_intro (by simp only [zW,zX,zD,builtinA,isLeaf,const1,Nat.reduceAdd,Nat.reduceMul,Nat.reduceSub,Nat.reduceLT,Nat.reduceLeDiff,Nat.reduceEqDiff,Nat.reduceBEq,Nat.reduceBNe,reduceIte,reduceCtorEq,Int.reduceToNat,Int.reduceLT,Int.reduceLE,Int.reduceEq,Int.reduceNe,Int.reduceNeg,ustrA,Option.map_some]; rfl) (pspec_l1Num _) ?_ rfl; rintro v A' ⟨rfl,rfl⟩
        simp only [zW,zX,zD,builtinA,isLeaf,const1,Nat.reduceAdd,Nat.reduceMul,Nat.reduceSub,Nat.reduceLT,Nat.reduceLeDiff,Nat.reduceEqDiff,Nat.reduceBEq,Nat.reduceBNe,reduceIte,reduceCtorEq,Int.reduceToNat,Int.reduceLT,Int.reduceLE,Int.reduceEq,Int.reduceNe,Int.reduceNeg,ustrA,ti3,ti5,ti9,ti36,ca188,ca189,ca256,ca262,ca291,ca315,cf,Tryz.results291,enc_length,enc_take,frzL_enc,Option.map_some,w1]
        rw [hdr,pTy,if_pos c73]
        exact ⟨encC _ _,rfl⟩
      · simp only [zW,zX,zD,builtinA,isLeaf,const1,Nat.reduceAdd,Nat.reduceMul,Nat.reduceSub,Nat.reduceLT,Nat.reduceLeDiff,Nat.reduceEqDiff,Nat.reduceBEq,Nat.reduceBNe,reduceIte,reduceCtorEq,Int.reduceToNat,Int.reduceLT,Int.reduceLE,Int.reduceEq,Int.reduceNe,Int.reduceNeg,ustrA,ti3,ti5,ti9,ti36,ca188,ca189,ca256,ca262,ca291,ca315,cf,Tryz.results291,decide_eq_false c73]
        refine ⟨⟨by omega,by omega⟩,?_⟩
        rw [h40]
        by_cases c40 : s.getD at' 0 = 40
        · simp only [zW,zX,zD,builtinA,isLeaf,const1,Nat.reduceAdd,Nat.reduceMul,Nat.reduceSub,Nat.reduceLT,Nat.reduceLeDiff,Nat.reduceEqDiff,Nat.reduceBEq,Nat.reduceBNe,reduceIte,reduceCtorEq,Int.reduceToNat,Int.reduceLT,Int.reduceLE,Int.reduceEq,Int.reduceNe,Int.reduceNeg,ustrA,ti3,ti5,ti9,ti36,ca188,ca189,ca256,ca262,ca291,ca315,cf,Tryz.results291,decide_eq_true c40,w1,wd]
          have hp : pTy (d + 1) (s.drop at') = (pFun (pTy d) (s.drop (at' + 1))).map fun x=>(x.1,x.2 + 1):=by rw [hdr,pTy,if_neg c73,if_pos c40]
          rw [hp]
          refine callK_intro (by simp only [zW,zX,zD,builtinA,isLeaf,const1,Nat.reduceAdd,Nat.reduceMul,Nat.reduceSub,Nat.reduceLT,Nat.reduceLeDiff,Nat.reduceEqDiff,Nat.reduceBEq,Nat.reduceBNe,reduceIte,reduceCtorEq,Int.reduceToNat,Int.reduceLT,Int.reduceLE,Int.reduceEq,Int.reduceNe,Int.reduceNeg,ustrA,Option.map_some] <;> rfl) (ih s (at' + 1) _ hs (by omega)) ?_ rfl
          rintro r A' ⟨hr,rfl⟩
          cases ha1 : pTy d (s.drop (at' + 1)) with
          | none =>
            rw [ha1] at hr
            obtain ⟨τ,hτ,rfl⟩:=hr
            simp only [zW,zX,zD,builtinA,isLeaf,const1,Nat.reduceAdd,Nat.reduceMul,Nat.reduceSub,Nat.reduceLT,Nat.reduceLeDiff,Nat.reduceEqDiff,Nat.reduceBEq,Nat.reduceBNe,reduceIte,reduceCtorEq,Int.reduceToNat,Int.reduceLT,Int.reduceLE,Int.reduceEq,Int.reduceNe,Int.reduceNeg,ustrA,ti3,ti5,ti9,ti36,ca188,ca189,ca256,ca262,ca291,ca315,cf,Tryz.results291,enc_length,enc_take,frzL_enc,Option.map_some]
            refine callK_intro (by simp only [zW,zX,zD,builtinA,isLeaf,const1,Nat.reduceAdd,Nat.reduceMul,Nat.reduceSub,Nat.reduceLT,Nat.reduceLeDiff,Nat.reduceEqDiff,Nat.reduceBEq,Nat.reduceBNe,reduceIte,reduceCtorEq,Int.reduceToNat,Int.reduceLT,Int.reduceLE,Int.reduceEq,Int.reduceNe,Int.reduceNeg,ustrA,Option.map_some]; rfl) (spec_l1Sign s (-1) 62 _) ?_ rfl; rintro v A' ⟨rfl,rfl⟩
            have hf : signB s (-1) 62 = false:=rfl
            simp only [zW,zX,zD,builtinA,isLeaf,const1,Nat.reduceAdd,Nat.reduceMul,Nat.reduceSub,Nat.reduceLT,Nat.reduceLeDiff,Nat.reduceEqDiff,Nat.reduceBEq,Nat.reduceBNe,reduceIte,reduceCtorEq,Int.reduceToNat,Int.reduceLT,Int.reduceLE,Int.reduceEq,Int.reduceNe,Int.reduceNeg,ustrA,ti3,ti5,ti9,ti36,ca188,ca189,ca256,ca262,ca291,ca315,cf,Tryz.results291,hf]
            exact hz _ (by simp [pFun,ha1])
          | some x =>
            obtain ⟨a,k⟩:=x
            rw [ha1] at hr
            simp only [pres'] at hr
            subst hr
            obtain ⟨a1,a2,a3,a4,a5⟩:=pTy_sound d ha1
            simp only [List.length_drop] at a2
            simp only [zW,zX,zD,builtinA,isLeaf,const1,Nat.reduceAdd,Nat.reduceMul,Nat.reduceSub,Nat.reduceLT,Nat.reduceLeDiff,Nat.reduceEqDiff,Nat.reduceBEq,Nat.reduceBNe,reduceIte,reduceCtorEq,Int.reduceToNat,Int.reduceLT,Int.reduceLE,Int.reduceEq,Int.reduceNe,Int.reduceNeg,ustrA,ti3,ti5,ti9,ti36,ca188,ca189,ca256,ca262,ca291,ca315,cf,Tryz.results291,enc_length,enc_take,frzL_enc,Option.map_some]
            refine callK_intro (by simp only [zW,zX,zD,builtinA,isLeaf,const1,Nat.reduceAdd,Nat.reduceMul,Nat.reduceSub,Nat.reduceLT,Nat.reduceLeDiff,Nat.reduceEqDiff,Nat.reduceBEq,Nat.reduceBNe,reduceIte,reduceCtorEq,Int.reduceToNat,Int.reduceLT,Int.reduceLE,Int.reduceEq,Int.reduceNe,Int.reduceNeg,ustrA,Option.map_some]; rfl) (spec_l1Sign s ((at' + 1 + k : Nat) : Int) 62 _) ?_ rfl; rintro v A' ⟨rfl,rfl⟩
            have hsg : signB s ((at' + 1 + k : Nat) : Int) 62 = decide (s[at' + 1 + k]? = some 62):=by
              have : decide ((0 : Int) ≤ ((at' + 1 + k : Nat) : Int)) = true:=decide_eq_true (by omega)
              rw [signB,this,Bool.true_and]; rfl
            have hk1 : (s.drop (at' + 1))[k]? = s[at' + 1 + k]?:=by simp
            rw [hsg]
            by_cases h1 : s[at' + 1 + k]? = some 62
            · obtain ⟨e1',_⟩:=getE h1
              have w4 : IntKind.i64.wrap (((at' + 1 + k : Nat) : Int) + 1) = ((at' + 1 + k + 1 : Nat) : Int):=by rw [wrap64 (by omega) (by omega)]; omega
              have hdd : (s.drop (at' + 1)).drop (k + 1) = s.drop (at' + 1 + k + 1):=by rw [List.drop_drop]; congr 1
              simp only [zW,zX,zD,builtinA,isLeaf,const1,Nat.reduceAdd,Nat.reduceMul,Nat.reduceSub,Nat.reduceLT,Nat.reduceLeDiff,Nat.reduceEqDiff,Nat.reduceBEq,Nat.reduceBNe,reduceIte,reduceCtorEq,Int.reduceToNat,Int.reduceLT,Int.reduceLE,Int.reduceEq,Int.reduceNe,Int.reduceNeg,ustrA,ti3,ti5,ti9,ti36,ca188,ca189,ca256,ca262,ca291,ca315,cf,Tryz.results291,decide_eq_true h1,w4,wd]
              refine callK_intro (by simp only [zW,zX,zD,builtinA,isLeaf,const1,Nat.reduceAdd,Nat.reduceMul,Nat.reduceSub,Nat.reduceLT,Nat.reduceLeDiff,Nat.reduceEqDiff,Nat.reduceBEq,Nat.reduceBNe,reduceIte,reduceCtorEq,Int.reduceToNat,Int.reduceLT,Int.reduceLE,Int.reduceEq,Int.reduceNe,Int.reduceNeg,ustrA,Option.map_some] <;> rfl) (ih s (at' + 1 + k + 1) _ hs (by omega)) ?_ rfl
              rintro r A' ⟨hr,rfl⟩
              cases hb1 : pTy d (s.drop (at' + 1 + k + 1)) with
              | none =>
                rw [hb1] at hr
                obtain ⟨τ,hτ,rfl⟩:=hr
                simp only [zW,zX,zD,builtinA,isLeaf,const1,Nat.reduceAdd,Nat.reduceMul,Nat.reduceSub,Nat.reduceLT,Nat.reduceLeDiff,Nat.reduceEqDiff,Nat.reduceBEq,Nat.reduceBNe,reduceIte,reduceCtorEq,Int.reduceToNat,Int.reduceLT,Int.reduceLE,Int.reduceEq,Int.reduceNe,Int.reduceNeg,ustrA,ti3,ti5,ti9,ti36,ca188,ca189,ca256,ca262,ca291,ca315,cf,Tryz.results291,enc_length,enc_take,frzL_enc,Option.map_some]
                refine callK_intro (by simp only [zW,zX,zD,builtinA,isLeaf,const1,Nat.reduceAdd,Nat.reduceMul,Nat.reduceSub,Nat.reduceLT,Nat.reduceLeDiff,Nat.reduceEqDiff,Nat.reduceBEq,Nat.reduceBNe,reduceIte,reduceCtorEq,Int.reduceToNat,Int.reduceLT,Int.reduceLE,Int.reduceEq,Int.reduceNe,Int.reduceNeg,ustrA,Option.map_some]; rfl) (spec_l1Sign s (-1) 41 _) ?_ rfl; rintro v A' ⟨rfl,rfl⟩
                have hf : signB s (-1) 41 = false:=rfl
                simp only [zW,zX,zD,builtinA,isLeaf,const1,Nat.reduceAdd,Nat.reduceMul,Nat.reduceSub,Nat.reduceLT,Nat.reduceLeDiff,Nat.reduceEqDiff,Nat.reduceBEq,Nat.reduceBNe,reduceIte,reduceCtorEq,Int.reduceToNat,Int.reduceLT,Int.reduceLE,Int.reduceEq,Int.reduceNe,Int.reduceNeg,ustrA,ti3,ti5,ti9,ti36,ca188,ca189,ca256,ca262,ca291,ca315,cf,Tryz.results291,hf]
                exact hz _ (by simp [pFun,ha1,hk1,h1,hdd,hb1])
              | some y =>
                obtain ⟨b,l⟩:=y
                rw [hb1] at hr
                simp only [pres'] at hr
                subst hr
                obtain ⟨b1,b2,b3,b4,b5⟩:=pTy_sound d hb1
                simp only [List.length_drop] at b2
                simp only [zW,zX,zD,builtinA,isLeaf,const1,Nat.reduceAdd,Nat.reduceMul,Nat.reduceSub,Nat.reduceLT,Nat.reduceLeDiff,Nat.reduceEqDiff,Nat.reduceBEq,Nat.reduceBNe,reduceIte,reduceCtorEq,Int.reduceToNat,Int.reduceLT,Int.reduceLE,Int.reduceEq,Int.reduceNe,Int.reduceNeg,ustrA,ti3,ti5,ti9,ti36,ca188,ca189,ca256,ca262,ca291,ca315,cf,Tryz.results291,enc_length,enc_take,frzL_enc,Option.map_some]
                refine callK_intro (by simp only [zW,zX,zD,builtinA,isLeaf,const1,Nat.reduceAdd,Nat.reduceMul,Nat.reduceSub,Nat.reduceLT,Nat.reduceLeDiff,Nat.reduceEqDiff,Nat.reduceBEq,Nat.reduceBNe,reduceIte,reduceCtorEq,Int.reduceToNat,Int.reduceLT,Int.reduceLE,Int.reduceEq,Int.reduceNe,Int.reduceNeg,ustrA,Option.map_some]; rfl) (spec_l1Sign s ((at' + 1 + k + 1 + l : Nat) : Int) 41 _) ?_ rfl; rintro v A' ⟨rfl,rfl⟩
                have hsg2 : signB s ((at' + 1 + k + 1 + l : Nat) : Int) 41 = decide (s[at' + 1 + k + 1 + l]? = some 41):=by
                  have : decide ((0 : Int) ≤ ((at' + 1 + k + 1 + l : Nat) : Int)) = true:=decide_eq_true (by omega)
                  rw [signB,this,Bool.true_and]; rfl
                have hk2 : (s.drop (at' + 1))[k + 1 + l]? = s[at' + 1 + k + 1 + l]?:=by rw [List.getElem?_drop,show at' + 1 + (k + 1 + l) = at' + 1 + k + 1 + l by omega]
                rw [hsg2]
                by_cases h2 : s[at' + 1 + k + 1 + l]? = some 41
                · obtain ⟨f1',_⟩:=getE h2
                  have w5 : IntKind.i64.wrap (((at' + 1 + k + 1 + l : Nat) : Int) + 1) = ((at' + 1 + k + 1 + l + 1 : Nat) : Int):=by rw [wrap64 (by omega) (by omega)]; omega
                  have hpf : pFun (pTy d) (s.drop (at' + 1)) = some (.fn a b,k + 1 + l + 1):=by simp [pFun,ha1,hk1,h1,hdd,hb1,hk2,h2]
                  rw [hpf]
                  simp only [zW,zX,zD,builtinA,isLeaf,const1,Nat.reduceAdd,Nat.reduceMul,Nat.reduceSub,Nat.reduceLT,Nat.reduceLeDiff,Nat.reduceEqDiff,Nat.reduceBEq,Nat.reduceBNe,reduceIte,reduceCtorEq,Int.reduceToNat,Int.reduceLT,Int.reduceLE,Int.reduceEq,Int.reduceNe,Int.reduceNeg,ustrA,ti3,ti5,ti9,ti36,ca188,ca189,ca256,ca262,ca291,ca315,cf,Tryz.results291,decide_eq_true h2,w5,enc_length,enc_take,frzL_enc,Option.map_some]
                  refine callK_intro (by simp only [zW,zX,zD,builtinA,isLeaf,const1,Nat.reduceAdd,Nat.reduceMul,Nat.reduceSub,Nat.reduceLT,Nat.reduceLeDiff,Nat.reduceEqDiff,Nat.reduceBEq,Nat.reduceBNe,reduceIte,reduceCtorEq,Int.reduceToNat,Int.reduceLT,Int.reduceLE,Int.reduceEq,Int.reduceNe,Int.reduceNeg,ustrA,enc_length,enc_take,frzL_enc,Option.map_some]; rfl) (pspec_l1Fun (toTy a) (toTy b) _) ?_ rfl; rintro v A' ⟨rfl,rfl⟩
                  simp only [zW,zX,zD,builtinA,isLeaf,const1,Nat.reduceAdd,Nat.reduceMul,Nat.reduceSub,Nat.reduceLT,Nat.reduceLeDiff,Nat.reduceEqDiff,Nat.reduceBEq,Nat.reduceBNe,reduceIte,reduceCtorEq,Int.reduceToNat,Int.reduceLT,Int.reduceLE,Int.reduceEq,Int.reduceNe,Int.reduceNeg,ustrA,ti3,ti5,ti9,ti36,ca188,ca189,ca256,ca262,ca291,ca315,cf,Tryz.results291,w5,enc_length,enc_take,frzL_enc,Option.map_some]
                  refine ⟨encC _ _,?_⟩
                  simp only [Option.map_some,pres',toTy]
                  rw [show at' + (k + 1 + l + 1 + 1) = at' + 1 + k + 1 + l + 1 by omega]
                · simp only [zW,zX,zD,builtinA,isLeaf,const1,Nat.reduceAdd,Nat.reduceMul,Nat.reduceSub,Nat.reduceLT,Nat.reduceLeDiff,Nat.reduceEqDiff,Nat.reduceBEq,Nat.reduceBNe,reduceIte,reduceCtorEq,Int.reduceToNat,Int.reduceLT,Int.reduceLE,Int.reduceEq,Int.reduceNe,Int.reduceNeg,ustrA,ti3,ti5,ti9,ti36,ca188,ca189,ca256,ca262,ca291,ca315,cf,Tryz.results291,decide_eq_false h2]
                  exact hz _ (by simp [pFun,ha1,hk1,h1,hdd,hb1,hk2,h2])
            · simp only [zW,zX,zD,builtinA,isLeaf,const1,Nat.reduceAdd,Nat.reduceMul,Nat.reduceSub,Nat.reduceLT,Nat.reduceLeDiff,Nat.reduceEqDiff,Nat.reduceBEq,Nat.reduceBNe,reduceIte,reduceCtorEq,Int.reduceToNat,Int.reduceLT,Int.reduceLE,Int.reduceEq,Int.reduceNe,Int.reduceNeg,ustrA,ti3,ti5,ti9,ti36,ca188,ca189,ca256,ca262,ca291,ca315,cf,Tryz.results291,decide_eq_false h1]
              exact hz _ (by simp [pFun,ha1,hk1,h1])
        · simp only [zW,zX,zD,builtinA,isLeaf,const1,Nat.reduceAdd,Nat.reduceMul,Nat.reduceSub,Nat.reduceLT,Nat.reduceLeDiff,Nat.reduceEqDiff,Nat.reduceBEq,Nat.reduceBNe,reduceIte,reduceCtorEq,Int.reduceToNat,Int.reduceLT,Int.reduceLE,Int.reduceEq,Int.reduceNe,Int.reduceNeg,ustrA,ti3,ti5,ti9,ti36,ca188,ca189,ca256,ca262,ca291,ca315,cf,Tryz.results291,decide_eq_false c40]
          have hp : pTy (d + 1) (s.drop at') = pName (s.drop at'):=by rw [hdr,pTy,if_neg c73,if_neg c40]
          rw [hp]
          refine callK_intro (by simp only [zW,zX,zD,builtinA,isLeaf,const1,Nat.reduceAdd,Nat.reduceMul,Nat.reduceSub,Nat.reduceLT,Nat.reduceLeDiff,Nat.reduceEqDiff,Nat.reduceBEq,Nat.reduceBNe,reduceIte,reduceCtorEq,Int.reduceToNat,Int.reduceLT,Int.reduceLE,Int.reduceEq,Int.reduceNe,Int.reduceNeg,ustrA,Option.map_some] <;> rfl) (spec_l1Dotted s hs at' h _) ?_ rfl
          rintro r A' ⟨hr,rfl⟩
          cases hn : pName (s.drop at') with
          | none =>
            rw [hn] at hr
            simp only [dres] at hr
            subst hr
            simp only [zW,zX,zD,builtinA,isLeaf,const1,Nat.reduceAdd,Nat.reduceMul,Nat.reduceSub,Nat.reduceLT,Nat.reduceLeDiff,Nat.reduceEqDiff,Nat.reduceBEq,Nat.reduceBNe,reduceIte,reduceCtorEq,Int.reduceToNat,Int.reduceLT,Int.reduceLE,Int.reduceEq,Int.reduceNe,Int.reduceNeg,ustrA,ti3,ti5,ti9,ti36,ca188,ca189,ca256,ca262,ca291,ca315,cf,Tryz.results291]
            refine callK_intro (by simp only [zW,zX,zD,builtinA,isLeaf,const1,Nat.reduceAdd,Nat.reduceMul,Nat.reduceSub,Nat.reduceLT,Nat.reduceLeDiff,Nat.reduceEqDiff,Nat.reduceBEq,Nat.reduceBNe,reduceIte,reduceCtorEq,Int.reduceToNat,Int.reduceLT,Int.reduceLE,Int.reduceEq,Int.reduceNe,Int.reduceNeg,ustrA,Option.map_some]; rfl) (pspec_l1Name [] [] _) ?_ rfl; rintro v A' ⟨rfl,rfl⟩
            simp only [zW,zX,zD,builtinA,isLeaf,const1,Nat.reduceAdd,Nat.reduceMul,Nat.reduceSub,Nat.reduceLT,Nat.reduceLeDiff,Nat.reduceEqDiff,Nat.reduceBEq,Nat.reduceBNe,reduceIte,reduceCtorEq,Int.reduceToNat,Int.reduceLT,Int.reduceLE,Int.reduceEq,Int.reduceNe,Int.reduceNeg,ustrA,ti3,ti5,ti9,ti36,ca188,ca189,ca256,ca262,ca291,ca315,cf,Tryz.results291,enc_length,enc_take,frzL_enc,Option.map_some]
            exact ⟨encC _ _,_,.inr rfl,rfl⟩
          | some x =>
            obtain ⟨v,k⟩:=x
            rw [hn] at hr
            cases v with
            | num=>exact hr.elim
            | fn=>exact hr.elim
            | nm m n =>
              simp only [dres] at hr
              subst hr
              simp only [zW,zX,zD,builtinA,isLeaf,const1,Nat.reduceAdd,Nat.reduceMul,Nat.reduceSub,Nat.reduceLT,Nat.reduceLeDiff,Nat.reduceEqDiff,Nat.reduceBEq,Nat.reduceBNe,reduceIte,reduceCtorEq,Int.reduceToNat,Int.reduceLT,Int.reduceLE,Int.reduceEq,Int.reduceNe,Int.reduceNeg,ustrA,ti3,ti5,ti9,ti36,ca188,ca189,ca256,ca262,ca291,ca315,cf,Tryz.results291]
              refine callK_intro (by simp only [zW,zX,zD,builtinA,isLeaf,const1,Nat.reduceAdd,Nat.reduceMul,Nat.reduceSub,Nat.reduceLT,Nat.reduceLeDiff,Nat.reduceEqDiff,Nat.reduceBEq,Nat.reduceBNe,reduceIte,reduceCtorEq,Int.reduceToNat,Int.reduceLT,Int.reduceLE,Int.reduceEq,Int.reduceNe,Int.reduceNeg,ustrA,Option.map_some]; rfl) (pspec_l1Name m n _) ?_ rfl; rintro v A' ⟨rfl,rfl⟩
              simp only [zW,zX,zD,builtinA,isLeaf,const1,Nat.reduceAdd,Nat.reduceMul,Nat.reduceSub,Nat.reduceLT,Nat.reduceLeDiff,Nat.reduceEqDiff,Nat.reduceBEq,Nat.reduceBNe,reduceIte,reduceCtorEq,Int.reduceToNat,Int.reduceLT,Int.reduceLE,Int.reduceEq,Int.reduceNe,Int.reduceNeg,ustrA,ti3,ti5,ti9,ti36,ca188,ca189,ca256,ca262,ca291,ca315,cf,Tryz.results291,enc_length,enc_take,frzL_enc,Option.map_some]
              exact ⟨encC _ _,rfl⟩
    · have e2 : decide ((s.length : Int) ≤ (at' : Int)) = true:=decide_eq_true (by omega)
      have hdr : s.drop at' = []:=by simp; omega
      simp only [zW,zX,zD,builtinA,isLeaf,const1,Nat.reduceAdd,Nat.reduceMul,Nat.reduceSub,Nat.reduceLT,Nat.reduceLeDiff,Nat.reduceEqDiff,Nat.reduceBEq,Nat.reduceBNe,reduceIte,reduceCtorEq,Int.reduceToNat,Int.reduceLT,Int.reduceLE,Int.reduceEq,Int.reduceNe,Int.reduceNeg,ustrA,ti3,ti5,ti9,ti36,ca188,ca189,ca256,ca262,ca291,ca315,cf,Tryz.results291,e0,e1,e2]
      exact hz _ (by rw [hdr,pTy])
end Go.Proofs.YtnjdbgiincliaaaGreat
