/- DrawNm, NormP, SpSigN, OwnMark, OwnTo, OwnFree, OwnSi. -/
import Derived.Test.YtnjdbgiincliaaaGreatN11
import Derived.Test.YtnjdbgiincliaaaGreatAbsW3
/- The arguments that the model draws for NormalSig. -/
set_option linter.unusedVariables false
set_option linter.unusedSimpArgs false
namespace Go.Proofs.YtnjdbgiincliaaaGreat
open Go.Abs
abbrev psK : List UInt8:=[123,116,61,40,40,73,62,73,41,62,40,73,62,73,41,41,59,117,61,40,40,116,62,116,41,62,40,116,62,116,41,41,59,118,61,40,40,117,62,117,41,62,40,117,62,117,41,41,59,120,58,118,125]
def psF (v : VT) : VT:=.fn (.fn v v) (.fn v v)
def psV : Nat → VT
  | 0=>psF .num
  | 1=>psF (.nm [] [116])
  | 2=>psF (.nm [] [117])
  | _=>.nm [] [118]
def psN : Nat → UInt8
  | 0=>116
  | 1=>117
  | 2=>118
  | _=>120
def psI (i : Nat) : SigI:=⟨if i = 3 then 3 else 2,[psN i],toTy (psV i)⟩
def psL (i : Nat) : List SigI:=(List.range i).map psI
theorem psL_succ (i : Nat) : psL (i + 1) = psL i ++ [psI i]:=by simp [psL,List.range_succ]
theorem psL_len (i : Nat) : (psL i).length = i:=by simp [psL]
theorem psI_small (i : Nat) : SmX (psI i):=by
  refine ⟨by simp [psI],?_⟩
  show sz (toTy (psV i)) ≤ 200
  match i with
  | 0=>simp [psV,psF,toTy,sz,szs]
  | 1=>simp [psV,psF,toTy,sz,szs]
  | 2=>simp [psV,psF,toTy,sz,szs]
  | n + 3=>simp [psV,toTy,sz,szs]
theorem psL_small (i : Nat) : ∀ x ∈ psL i,SmX x:=fun x hx=>by
  obtain ⟨k,_,rfl⟩:=List.mem_map.1 hx
  exact psI_small k
theorem ps_ty0 : pTy 8 (psK.drop 3) = some (psF .num,13):=by kernel_rfl
theorem ps_ty1 : pTy 8 (psK.drop 19) = some (psF (.nm [] [116]),13):=by kernel_rfl
theorem ps_ty2 : pTy 8 (psK.drop 35) = some (psF (.nm [] [117]),13):=by kernel_rfl
theorem ps_ty3 : pTy 8 (psK.drop 51) = some (.nm [] [118],1):=by kernel_rfl
theorem ps_ty (i : Nat) (h : i < 4) : pTy 8 (psK.drop (16 * i + 3)) = some (psV i,if i = 3 then 1 else 13):=by
  obtain rfl | rfl | rfl | rfl : i = 0 ∨ i = 1 ∨ i = 2 ∨ i = 3:=by omega
  · exact ps_ty0
  · exact ps_ty1
  · exact ps_ty2
  · exact ps_ty3
theorem ps_nm (i : Nat) (h : i < 4) : psK.getD (16 * i + 1) 0 = psN i:=by
  match i,h with
  | 0,_=>rfl
  | 1,_=>rfl
  | 2,_=>rfl
  | 3,_=>rfl
theorem ps_sg (i : Nat) (h : i < 4) : signB psK ((16 * i + 2 : Nat) : Int) 61 = decide (i ≠ 3) ∧ signB psK ((16 * i + 2 : Nat) : Int) 58 = decide (i = 3):=by
  match i,h with
  | 0,_=>exact ⟨rfl,rfl⟩
  | 1,_=>exact ⟨rfl,rfl⟩
  | 2,_=>exact ⟨rfl,rfl⟩
  | 3,_=>exact ⟨rfl,rfl⟩
def psX (i : Nat) : Nat:=if i = 3 then 52 else 16 * i + 16
theorem ps_end (i : Nat) (h : i < 4) : signB psK ((psX i : Nat) : Int) 125 = decide (i = 3) ∧ signB psK ((psX i : Nat) : Int) 59 = decide (i ≠ 3):=by
  match i,h with
  | 0,_=>exact ⟨rfl,rfl⟩
  | 1,_=>exact ⟨rfl,rfl⟩
  | 2,_=>exact ⟨rfl,rfl⟩
  | 3,_=>exact ⟨rfl,rfl⟩
set_option maxRecDepth 100000 in
set_option maxHeartbeats 4000000 in
theorem spec_l2ParseItem (i : Nat) (h : i < 4) (A : List Box) : ACalls Tryz.prog 263 [.str psK,.int .i64 ((16 * i + 1 : Nat) : Int)] A (fun r A'=>r = .tuple [.agg (sE (psI i)),.int .i64 ((psX i : Nat) : Int)] ∧ A' = A):=by
  have hpl : psK.length = 53:=rfl
  have hty:=ps_ty i h
  have hnm:=ps_nm i h
  obtain ⟨hs1,hs2⟩:=ps_sg i h
  have hsl : (psK.take (16 * i + 1 + 1)).drop (16 * i + 1) = [psN i]:=by rw [slice1 (by omega),hnm]
  have hP:=fun A=>spec_l1Parse 8 (by omega) psK (16 * i + 3) A (by omega) (by omega)
  rw [hty] at hP
  have hpi : psI i = ⟨if i = 3 then 3 else 2,[psN i],toTy (psV i)⟩:=rfl
  rw [hpi]
  have hx : ((16 * i + 3 + (if i = 3 then 1 else 13) : Nat) : Int) = (psX i : Nat):=by rw [psX]; split <;> omega
  simp only [pres',hx] at hP
  have d1 : decide (((16 * i + 1 : Nat) : Int) < 0) = false:=decide_eq_false (by omega)
  have d2 : decide (((16 * i + 1 : Nat) : Int) ≥ (53 : Int)) = false:=decide_eq_false (by omega)
  have w1 : IntKind.i64.wrap (((16 * i + 1 : Nat) : Int) + 1) = ((16 * i + 2 : Nat) : Int):=by rw [wrap64 (by omega) (by omega)]; omega
  have w2 : IntKind.i64.wrap (((16 * i + 1 : Nat) : Int) + 2) = ((16 * i + 3 : Nat) : Int):=by rw [wrap64 (by omega) (by omega)]; omega
  generalize psK = s at *
  refine acalls_enter (cf:=cf 59 [0,1,4,5,6,7,8,9,10,18,28,43]) foll Tryz.func263 Tryz.ntmps263 (by simp [cf]) ?_
  simp only [Tryz.f263,EnterK_some,zW,zX,zD,builtinA,isLeaf,const1,ustrA,simprocAttr,ti3,ti9,ti36,ti69,ca262,ca291,cf,Tryz.results263]
  simp only [zW,zX,zD,builtinA,isLeaf,const1,ustrA,simprocAttr,ti3,ti9,ti36,ti69,ca262,ca291,cf,Tryz.results263,d1,d2,w1,w2,hpl]
  refine ⟨⟨by omega,by omega,by omega⟩,?_⟩
  refine callO_intro (spec_l1Sign s _ 61 _) ?_
  rintro r A' ⟨rfl,hA⟩
  have hA:=hA.symm
  subst hA
  rw [hs1]
  by_cases h3 : i = 3
  · simp only [zW,zX,zD,builtinA,isLeaf,const1,ustrA,simprocAttr,ti3,ti9,ti36,ti69,ca262,ca291,cf,Tryz.results263,decide_eq_false (show ¬ i ≠ 3 from fun h=>h h3),d1,d2,w1,w2,hpl]
    refine callO_intro (spec_l1Sign s _ 58 _) ?_
    rintro r A' ⟨rfl,hA⟩
    have hA:=hA.symm
    subst hA
    rw [hs2]
    simp only [zW,zX,zD,builtinA,isLeaf,const1,ustrA,simprocAttr,ti3,ti9,ti36,ti69,ca262,ca291,cf,Tryz.results263,decide_eq_true h3,d1,d2,w1,w2,hpl]
    refine callO_intro (hP _) ?_
    rintro r A' ⟨rfl,hA⟩
    have hA:=hA.symm
    subst hA
    rw [if_pos h3]
    simp only [sE]
    simp only [zW,zX,zD,builtinA,isLeaf,const1,ustrA,simprocAttr,ti3,ti9,ti36,ti69,ca262,ca291,cf,Tryz.results263,enc_length,enc_take,frzL_enc,Option.map_some,hsl]
    exact encC _ _
  · simp only [zW,zX,zD,builtinA,isLeaf,const1,ustrA,simprocAttr,ti3,ti9,ti36,ti69,ca262,ca291,cf,Tryz.results263,decide_eq_true (show i ≠ 3 from h3),d1,d2,w1,w2,hpl]
    refine callO_intro (hP _) ?_
    rintro r A' ⟨rfl,hA⟩
    have hA:=hA.symm
    subst hA
    rw [if_neg h3]
    simp only [sE]
    simp only [zW,zX,zD,builtinA,isLeaf,const1,ustrA,simprocAttr,ti3,ti9,ti36,ti69,ca262,ca291,cf,Tryz.results263,enc_length,enc_take,frzL_enc,Option.map_some,hsl]
    exact encC _ _
set_option maxRecDepth 100000 in
set_option maxHeartbeats 4000000 in
theorem spec_l2ParseK (A : List Box) : ACalls Tryz.prog 201 [.str psK,.int .i64 0] A (fun r A'=>r = .tuple [.slice (sEs (psL 4)),.int .i64 53] ∧ A' = A):=by
  have h0 : signB psK 0 123 = true:=rfl
  have h1 : signB psK 1 125 = false:=rfl
  have hE:=ps_end
  have hP:=spec_l2ParseItem
  generalize psK = s at *
  refine acalls_enter (cf:=cf 49 [0,1,4,5,6,7,8,13,18,24,38,45]) foll Tryz.func201 Tryz.ntmps201 (by simp [cf]) ?_
  simp only [Tryz.f201,EnterK_some,zW,zX,zD,builtinA,isLeaf,const1,ustrA,simprocAttr,ti3,ti50,ti69,ca262,ca263,cf,Tryz.results201]
  refine callO_intro (spec_l1Sign s 0 123 _) ?_
  rintro r A' ⟨rfl,hA⟩
  have hA:=hA.symm
  subst hA
  rw [h0]
  simp only [zW,zX,zD,builtinA,isLeaf,const1,ustrA,simprocAttr,ti3,ti50,ti69,ca262,ca263,cf,Tryz.results201]
  refine callO_intro (spec_l1Sign s 1 125 _) ?_
  rintro r A' ⟨rfl,hA⟩
  have hA:=hA.symm
  subst hA
  rw [h1]
  simp only [zW,zX,zD,builtinA,isLeaf,const1,ustrA,simprocAttr,ti3,ti50,ti69,ca262,ca263,cf,Tryz.results201]
  refine aloop_intro [0,1,6] (fun e A'=>∃ i j B,i ≤ 3 ∧ e = [(0,.str s),(1,.int .i64 ((16 * i : Nat) : Int)),(6,.own (A.length + j))] ∧ A' = A ++ B ∧ j < B.length ∧ B.getD j .dead = .row 6 (sEs (psL i)) 0) (fun e _=>100 - (intOf (Abs.look 1 e)).toNat) ?_ ?_
  · simp only [zW,zX,zD,builtinA,isLeaf,const1,ustrA,simprocAttr,ti3,ti50,ti69,ca262,ca263,cf,Tryz.results201]
    exact ⟨0,0,[.row 6 [] 0],by omega,rfl,rfl,by simp,rfl⟩
  · rintro e A' ⟨i,j,B,hi,rfl,rfl,hj,hg⟩
    have w1 : IntKind.i64.wrap (((16 * i : Nat) : Int) + 1) = ((16 * i + 1 : Nat) : Int):=by rw [wrap64 (by omega) (by omega)]; omega
    have w2 : IntKind.i64.wrap (((psX i : Nat) : Int) + 1) = ((psX i + 1 : Nat) : Int):=by have : psX i ≤ 100:=by { unfold psX; split <;> omega }; rw [wrap64 (by omega) (by omega)]; rfl
    have hl : (sEs (psL i)).length = i:=by rw [sEs_length,psL_len]
    have d1 : decide ((i : Int) ≤ 8) = true:=decide_eq_true (by omega)
    obtain ⟨he1,he2⟩:=hE i (by omega)
    have hPi:=hP i (by omega)
    have hrs : sEs (psL i) ++ [sE (psI i)] = sEs (psL (i + 1)):=by rw [psL_succ]; simp [sEs]
    have hgX : ∀ Y,(B ++ Y).getD j .dead = .row 6 (sEs (psL i)) 0:=fun Y=>by rw [Abs.getD_append_left hj]; exact hg
    have hsX : ∀ Y : List Box,(B ++ Y).set j .dead = B.set j .dead ++ Y:=fun Y=>by rw [List.set_append_left _ _ hj]
    have hjX : ∀ n,j < B.length + n:=fun n=>by omega
    have hlf:=sE_leaf (psI i)
    have hsl:=sE_len (psI i)
    generalize psI i = x at *
    obtain ⟨xk,xn,xt⟩:=x
    simp only [sE] at hPi hrs hlf hsl
    simp only [zW,zX,zD,builtinA,isLeaf,const1,ustrA,simprocAttr,ti3,ti50,ti69,ca262,ca263,cf,Tryz.results201,hg,hj,hl,d1,w1]
    refine callO_intro (hPi _) ?_
    rintro r A' ⟨rfl,hA⟩
    have hA:=hA.symm
    subst hA
    simp only [zW,zX,zD,builtinA,isLeaf,const1,ustrA,simprocAttr,ti3,ti50,ti69,ca262,ca263,cf,Tryz.results201,hg,hj,hgX,hsX,hjX,hl,hrs,enc_length,enc_take,frzL_enc,Option.map_some]
    refine ⟨fun v hv=>hlf v hv,⟨fun r hr=>by rw [List.mem_singleton.1 hr]; simp [enc_length],by omega⟩,?_⟩
    refine callO_intro (spec_l1Sign s _ 125 _) ?_
    rintro r A' ⟨rfl,hA⟩
    have hA:=hA.symm
    subst hA
    rw [he1]
    by_cases h3 : i = 3
    · simp only [zW,zX,zD,builtinA,isLeaf,const1,ustrA,simprocAttr,ti3,ti50,ti69,ca262,ca263,cf,Tryz.results201,decide_eq_true h3,w2]
      rw [h3]; rfl
    · simp only [zW,zX,zD,builtinA,isLeaf,const1,ustrA,simprocAttr,ti3,ti50,ti69,ca262,ca263,cf,Tryz.results201,decide_eq_false h3]
      refine callO_intro (spec_l1Sign s _ 59 _) ?_
      rintro r A' ⟨rfl,hA⟩
      have hA:=hA.symm
      subst hA
      rw [he2]
      have hx : psX i = 16 * (i + 1):=by rw [psX,if_neg h3]; omega
      simp only [zW,zX,zD,builtinA,isLeaf,const1,ustrA,simprocAttr,ti3,ti50,ti69,ca262,ca263,cf,Tryz.results201,decide_eq_true (show i ≠ 3 from h3),LoopK_eq]
      refine ⟨⟨i + 1,B.length + 2,_,by omega,by rw [hx],rfl,by simp,?_⟩,?_⟩
      · rw [Abs.getD_append_right (by simp)]; simp
      · simp only [intOf,hx]; omega
set_option maxRecDepth 100000 in
set_option maxHeartbeats 4000000 in
theorem spec_ParseSigK (A : List Box) : ACalls Tryz.prog 116 [.str psK] A (fun r A'=>∃ s q,r = .tuple [.slice (sEs s),.bool q] ∧ s.length ≤ 9 ∧ (∀ x ∈ s,SmX x) ∧ A' = A):=by
  obtain ⟨u,hu⟩:=txtIs_ex (psL 4)
  have h4 : (psL 4).length ≤ 1048576:=by rw [psL_len]; omega
  have hF:=fun A=>spec_FormatSig (psL 4) h4 (fun x hx=>(psL_small 4 x hx).ok) u hu A
  have hP:=spec_l2ParseK
  have hsm:=psL_small 4
  have hl9 : (psL 4).length ≤ 9:=by rw [psL_len]; omega
  have hpl : psK.length = 53:=rfl
  have hpn : ¬ psK = []:=by intro h; cases h
  have d1 : decide (¬ (53 : Int) = 53) = false:=by simp
  generalize psK = s at *
  generalize psL 4 = L at *
  refine acalls_enter (cf:=cf 27 [0,2,3,4,5,24]) foll Tryz.func116 Tryz.ntmps116 (by simp [cf]) ?_
  simp only [Tryz.f116,EnterK_some,zW,zX,zD,builtinA,isLeaf,const1,ustrA,simprocAttr,ti3,ti9,ti50,ti69,ca201,ca202,cf,Tryz.results116]
  refine callO_intro (hP _) ?_
  rintro r A' ⟨rfl,hA⟩
  have hA:=hA.symm
  subst hA
  simp only [zW,zX,zD,builtinA,isLeaf,const1,ustrA,simprocAttr,ti3,ti9,ti50,ti69,ca201,ca202,cf,Tryz.results116,hpl,decide_eq_false hpn,d1]
  refine callO_intro (hF _) ?_
  rintro r A' ⟨rfl,hA⟩
  have hA:=hA.symm
  subst hA
  by_cases he : u = s
  · simp only [zW,zX,zD,builtinA,isLeaf,const1,ustrA,simprocAttr,ti3,ti9,ti50,ti69,ca201,ca202,cf,Tryz.results116,decide_eq_true he,decide_eq_false (fun h : ¬ u = s=>h he)]
    exact ⟨_,_,rfl,hl9,hsm⟩
  · simp only [zW,zX,zD,builtinA,isLeaf,const1,ustrA,simprocAttr,ti3,ti9,ti50,ti69,ca201,ca202,cf,Tryz.results116,decide_eq_false he,decide_eq_true (show ¬ u = s from he)]
    exact ⟨[],_,rfl,by simp,by simp⟩
set_option maxRecDepth 100000 in
theorem spec_DrawNormalSig (bs : List UInt8) (A : List Box) : ACalls Tryz.prog 41 [.aslice (byteRows bs)] A (fun r A'=>∃ s,r = .slice (sEs s) ∧ s.length ≤ 9 ∧ (∀ x ∈ s,SmX x) ∧ A' = A):=by
  refine acalls_enter (cf:=cf 20 [0,2,3,4,10]) foll Tryz.func41 Tryz.ntmps41 (by simp [cf]) ?_
  simp only [Tryz.f41,EnterK_some,zW,zX,zD,builtinA,isLeaf,const1,ustrA,simprocAttr,ti3,ca98,ca99,ca100,ca115,ca116,cf,Tryz.results41]
  refine callK_intro (by simp only [zW,zX,zD,builtinA,isLeaf,const1,ustrA,simprocAttr]; rfl) (spec_l17Open bs _) ?_ rfl
  rintro v A' ⟨bs',hb,rfl,rfl⟩
  simp only [zW,zX,zD,builtinA,isLeaf,const1,ustrA,simprocAttr,ti3,ca98,ca99,ca100,ca115,ca116,cf,Tryz.results41]
  refine callK_intro (by simp only [zW,zX,zD,builtinA,isLeaf,const1,ustrA,simprocAttr]; rfl) (spec_pick bs' 0 12 A.length _ (by simp) (by simp [List.getD]) (by omega) (by omega)) ?_ rfl
  rintro v A' ⟨j1,rfl,h0,h1,rfl⟩
  by_cases k0 : j1 = 0
  · simp only [zW,zX,zD,builtinA,isLeaf,const1,ustrA,simprocAttr,ti3,ca98,ca99,ca100,ca115,ca116,cf,Tryz.results41,decide_eq_true k0]
    refine callO_intro (spec_ParseSigK _) ?_
    rintro r A' ⟨s,q,rfl,hs,hsm,hA⟩
    have hA:=hA.symm
    subst hA
    simp only [zW,zX,zD,builtinA,isLeaf,const1,ustrA,simprocAttr,ti3,ca98,ca99,ca100,ca115,ca116,cf,Tryz.results41]
    exact ⟨_,rfl,hs,hsm⟩
  · simp only [zW,zX,zD,builtinA,isLeaf,const1,ustrA,simprocAttr,ti3,ca98,ca99,ca100,ca115,ca116,cf,Tryz.results41,decide_eq_false k0]
    refine callK_intro (by simp only [zW,zX,zD,builtinA,isLeaf,const1,ustrA,simprocAttr]; rfl) (spec_l2Draw bs' 1 A.length _ (by simp) (by simp [List.getD]) (by omega)) ?_ rfl
    rintro v A' ⟨s,p',rfl,hs,hsm,hp1,hp2,rfl⟩
    simp only [zW,zX,zD,builtinA,isLeaf,const1,ustrA,simprocAttr,ti3,ca98,ca99,ca100,ca115,ca116,cf,Tryz.results41]
    refine callK_intro (by simp only [zW,zX,zD,builtinA,isLeaf,const1,ustrA,simprocAttr]; rfl) (spec_l2Mutate bs' p' s (by omega) (fun x hx=>(hsm x hx).big) A.length _ (by simp) (by simp [List.getD]) (by omega)) ?_ rfl
    rintro v A' ⟨s',p2,rfl,hs',hsm',hq1,hq2,rfl⟩
    simp only [zW,zX,zD,builtinA,isLeaf,const1,ustrA,simprocAttr,ti3,ca98,ca99,ca100,ca115,ca116,cf,Tryz.results41]
    exact ⟨_,rfl,hs',hsm'⟩
end Go.Proofs.YtnjdbgiincliaaaGreat
/- The normal signature as data. -/
set_option linter.unusedVariables false
set_option linter.unusedSimpArgs false
namespace Go.Proofs.YtnjdbgiincliaaaGreat
open Go.Abs
theorem allV_sub {p : Nm → Bool} {m : List (BNm × VT)} (hm : ∀ x ∈ m,allV p x.2 = true) : ∀ {v : VT},allV p v = true → allV p (subV m v) = true
  | .num,_=>rfl
  | .nm a b,h=>by
    rw [subV]
    cases hl : lookB (a,b) m with
    | none=>exact h
    | some w =>
      obtain ⟨q,hq⟩ : ∃ q,(q,w) ∈ m:=by
        clear h hm
        induction m with
        | nil=>cases hl
        | cons x m ih =>
          obtain ⟨q,v⟩:=x
          rw [lookB] at hl
          split at hl
          · cases hl; exact ⟨q,by simp⟩
          · obtain ⟨q',h'⟩:=ih hl; exact ⟨q',by simp [h']⟩
      exact hm _ hq
  | .fn a b,h=>by
    simp only [allV,Bool.and_eq_true] at h
    simp only [subV,allV,Bool.and_eq_true]
    exact ⟨allV_sub hm h.1,allV_sub hm h.2⟩
theorem allV_mono {p q : Nm → Bool} (h : ∀ x,p x = true → q x = true) : ∀ {v : VT},allV p v = true → allV q v = true
  | .num,_=>rfl
  | .nm a b,h'=>h _ h'
  | .fn a b,h'=>by
    simp only [allV,Bool.and_eq_true] at h' ⊢
    exact ⟨allV_mono h h'.1,allV_mono h h'.2⟩
def zsN (ys : List VI) (i : Nat) : List VI:=(List.range i).map fun k=>subI (nxtL (ys.take k)) (ys.getD k vi0)
theorem zsN_length (ys : List VI) (i : Nat) : (zsN ys i).length = i:=by simp [zsN]
theorem zsN_succ (ys : List VI) (i : Nat) : zsN ys (i + 1) = zsN ys i ++ [subI (nxtL (ys.take i)) (ys.getD i vi0)]:=by simp [zsN,List.range_succ]
theorem zsN_getD (ys : List VI) {i k : Nat} (h : k < i) : (zsN ys i).getD k vi0 = subI (nxtL (ys.take k)) (ys.getD k vi0):=by
  simp [zsN,List.getD,h]
theorem normL_from (ys : List VI) : ∀ n i,n = ys.length - i → i ≤ ys.length → (∀ k,k < i → fitI (subI (nxtL (ys.take k)) (ys.getD k vi0)) = true) → normL [] ys = (normL (nxtL (ys.take i)) (ys.drop i)).map (zsN ys i ++ ·)
  | _,0,_,_,_=>by simp [zsN,nxtL]
  | n,i + 1,hn,hi,hk=>by
    rw [normL_from ys (n + 1) i (by omega) (by omega) fun k h=>hk k (by omega),vi_drop (show i < ys.length by omega),normL,if_pos (hk i (by omega)),nxtL_snoc ys (by omega),zsN_succ,Option.map_map]
    congr 1
    funext x
    simp
theorem normL_yes {ys : List VI} (hf : fitL ys) : normL [] ys = some (zsN ys ys.length):=by
  rw [normL_from ys 0 ys.length (by omega) (Nat.le_refl _) hf,List.drop_length,normL]
  simp
theorem normL_no {ys : List VI} {i : Nat} (hi : i < ys.length) (hf : ∀ k,k < i → fitI (subI (nxtL (ys.take k)) (ys.getD k vi0)) = true) (h : fitI (subI (nxtL (ys.take i)) (ys.getD i vi0)) = false) : normL [] ys = none:=by
  rw [normL_from ys _ i rfl (by omega) hf,vi_drop hi,normL,if_neg (by rw [h]; simp)]
  rfl
theorem normL_fit {ys zs : List VI} (h : normL [] ys = some zs) : fitL ys ∧ zs = zsN ys ys.length:=by
  have hf : fitL ys:=by
    intro i hi
    cases hc : fitI (subI (nxtL (ys.take i)) (ys.getD i vi0)) with
    | true=>rfl
    | false =>
      exfalso
      obtain ⟨j,hj,hmin⟩ : ∃ j,(j ≤ i ∧ fitI (subI (nxtL (ys.take j)) (ys.getD j vi0)) = false) ∧ ∀ k,k < j → fitI (subI (nxtL (ys.take k)) (ys.getD k vi0)) = true:=by
        clear h
        induction i using Nat.strongRecOn with
        | _ i ih =>
          by_cases hx : ∀ k,k < i → fitI (subI (nxtL (ys.take k)) (ys.getD k vi0)) = true
          · exact ⟨i,⟨Nat.le_refl _,hc⟩,hx⟩
          · simp only [Classical.not_forall] at hx
            obtain ⟨k,hk,hk2⟩:=hx
            obtain ⟨j,h1,h2⟩:=ih k hk (by omega) (by simpa using hk2)
            exact ⟨j,⟨by omega,h1.2⟩,h2⟩
      rw [normL_no (by omega) hmin hj.2] at h
      cases h
  exact ⟨hf,by rw [normL_yes hf] at h; exact (Option.some.inj h).symm⟩
theorem nxtL_all (ys : List VI) (ho : ordB ys = true) : ∀ i,i ≤ ys.length → ∀ x ∈ nxtL (ys.take i),allV (okN ((ys.take i).map viK)) x.2 = true
  | 0,_=>by simp [nxtL]
  | i + 1,h=>by
    have ih:=nxtL_all ys ho i (by omega)
    have hs : stepB (ys.take i) (ys.getD i vi0) = true:=by
      unfold ordB at ho
      rw [List.all_eq_true] at ho
      exact ho i (List.mem_range.mpr h)
    simp only [stepB,Bool.and_eq_true] at hs
    have hmono : ∀ x,okN ((ys.take i).map viK) x = true → okN ((ys.take (i + 1)).map viK) x = true:=fun x hx=>by
      rw [keys_take h]
      simp only [okN,Bool.or_eq_true,decide_eq_true_eq,List.mem_append] at hx ⊢
      rcases hx with hx | hx
      · exact .inl hx
      · exact .inr (.inl hx)
    rw [nxtL_snoc ys (by omega)]
    cases hy : ys.getD i vi0 with
    | ab n =>
      simp only [nxtM,List.mem_append,List.mem_singleton]
      rintro x (hx | rfl)
      · exact allV_mono hmono (ih x hx)
      · simp only [allV]
        rw [keys_take h,hy]
        simp [okN,viK]
    | al n v =>
      rw [hy] at hs
      simp only [allI] at hs
      simp only [nxtM,List.mem_append,List.mem_singleton]
      rintro x (hx | rfl)
      · exact allV_mono hmono (ih x hx)
      · exact allV_mono hmono (allV_sub ih hs.1)
    | va n v =>
      simp only [nxtM]
      exact fun x hx=>allV_mono hmono (ih x hx)
theorem zsN_keys (ys : List VI) : ∀ i,i ≤ ys.length → (zsN ys i).map viK = (ys.take i).map viK
  | 0,_=>by simp [zsN]
  | i + 1,h=>by rw [zsN_succ,List.map_append,zsN_keys ys i (by omega),keys_take h]; simp [viK_sub]
theorem ordB_norm {ys : List VI} (ho : ordB ys = true) : ordB (zsN ys ys.length) = true:=by
  have hz:=zsN_length ys ys.length
  have ho':=ho
  unfold ordB at ho' ⊢
  rw [List.all_eq_true] at ho' ⊢
  intro i hi
  rw [List.mem_range,hz] at hi
  have hs:=ho' i (List.mem_range.mpr hi)
  have e : (zsN ys ys.length).take i = zsN ys i:=by
    simp only [zsN,← List.map_take]
    congr 1
    rw [List.take_range,Nat.min_eq_left (by omega)]
  rw [e,zsN_getD ys hi]
  simp only [stepB,Bool.and_eq_true,viK_sub,zsN_keys ys i (by omega)] at hs ⊢
  refine ⟨?_,hs.2⟩
  have hall:=nxtL_all ys ho i (by omega)
  generalize nxtL (ys.take i) = m at *
  generalize ys.getD i vi0 = y at *
  cases y with
  | ab n=>rfl
  | al n v=>exact allV_sub hall hs.1
  | va n v=>exact allV_sub hall hs.1
theorem zsN_ok {ys : List VI} (hy : ∀ i,i < ys.length → VOk (meanI (ys.getD i vi0))) (hf : fitL ys) {i : Nat} (hi : i < ys.length) : VOk (meanI (subI (nxtL (ys.take i)) (ys.getD i vi0))):=by
  have h1:=nxtL_ok ys hy hf i (by omega)
  have h2:=mean_sub h1 (hy i hi)
  have h3:=hf i hi
  simp only [fitI,Bool.and_eq_true,decide_eq_true_eq] at h3
  exact ⟨h2.1,h3.1,h3.2⟩
theorem zsN_reads {s : List SigI} {ys : List VI} (hr : ReadsTo s ys) (hf : fitL ys) : ReadsTo ((zsN ys ys.length).map siOf) (zsN ys ys.length):=by
  have hy : ∀ i,i < ys.length → VOk (meanI (ys.getD i vi0)):=fun k hk=>by
    have:=hr.2 k (by rw [← hr.1]; exact hk)
    exact mean_ok this.1 this.2
  refine ⟨by simp,fun i hi=>?_⟩
  have hi' : i < ys.length:=by simpa [zsN_length] using hi
  have e : ((zsN ys ys.length).map siOf).getD i si0 = siOf ((zsN ys ys.length).getD i vi0):=by
    simp [List.getD,zsN,hi']
  have hrl:=hr.2 i (by rw [← hr.1]; exact hi')
  rw [e,zsN_getD ys hi']
  refine ⟨?_,itemOf_of (zsN_ok hy hf hi')⟩
  rw [siOf_name,viK_sub,← siOf_name,← itemOf_si hrl.2]
  exact hrl.1
end Go.Proofs.YtnjdbgiincliaaaGreat
/- The model's NormalSig. -/
set_option linter.unusedVariables false
set_option linter.unusedSimpArgs false
namespace Go.Proofs.YtnjdbgiincliaaaGreat
open Go.Abs
theorem rdN_bad {s : List SigI} (h : sigB s = false) : RdN s none:=by
  by_cases h8 : 8 < s.length
  · exact .inl (.inl h8)
  · rcases reads_or s with hb | ⟨ys,hr⟩
    · exact .inl (.inr hb)
    · exact .inr ⟨ys,by omega,hr,.inl (by rw [← sigB_reads (by omega) hr]; exact h)⟩
def sgR (s : List SigI) : AV:=.tuple [.slice (sEs s),.bool true]
def sgN : AV:=.tuple [.slice [],.bool false]
set_option maxRecDepth 100000 in
theorem spec_l2Made (s : List SigI) (hs : s.length ≤ 1048576) (ho : ∀ x ∈ s,x.Ok ∧ sz x.typ ≤ 1048576) (A : List Box) : ACalls Tryz.prog 105 [.slice (sEs s)] A (fun r A'=>r = (if sigB s = true then sgR s else sgN) ∧ A' = A):=by
  refine acalls_enter (cf:=cf 9 [0,2,3,6]) foll Tryz.func105 Tryz.ntmps105 (by simp [cf]) ?_
  simp only [Tryz.f105,EnterK_some,zW,zX,zD,builtinA,isLeaf,const1,ustrA,simprocAttr,ti50,ti69,ca87,cf,Tryz.results105]
  refine callK_intro (by simp only [zW,zX,zD,builtinA,isLeaf,const1,ustrA,simprocAttr,Option.map_some]; rfl) (spec_SigValid s hs ho _) ?_ rfl; rintro v A' ⟨rfl,rfl⟩
  cases hb : sigB s with
  | true =>
    simp only [zW,zX,zD,builtinA,isLeaf,const1,ustrA,simprocAttr,ti50,ti69,ca87,cf,Tryz.results105]
    rfl
  | false =>
    simp only [zW,zX,zD,builtinA,isLeaf,const1,ustrA,simprocAttr,ti50,ti69,ca87,cf,Tryz.results105]
    rfl
def nrR : Option (List VI) → AV
  | some zs=>sgR (zs.map siOf)
  | none=>sgN
theorem take_getD' {ys : List VI} {i k : Nat} (h : k < i) (hi : i ≤ ys.length) : (ys.take i).getD k vi0 = ys.getD k vi0:=by
  simp [List.getD,h]
theorem take_take' {ys : List VI} {i k : Nat} (h : k ≤ i) : (ys.take i).take k = ys.take k:=by
  rw [List.take_take,Nat.min_eq_left h]
theorem nxtL_pre {ys : List VI} (hy : ∀ i,i < ys.length → VOk (meanI (ys.getD i vi0))) {i : Nat} (hf : ∀ k,k < i → fitI (subI (nxtL (ys.take k)) (ys.getD k vi0)) = true) (hi : i ≤ ys.length) : ∀ x ∈ nxtL (ys.take i),VOk x.2:=by
  have h:=nxtL_ok (ys.take i) (fun k hk=>?_) (fun k hk=>?_) i (by simp; omega)
  · rwa [take_take' (Nat.le_refl _)] at h
  · have hk' : k < i:=by simp at hk; omega
    rw [take_getD' hk' hi]; exact hy k (by omega)
  · have hk' : k < i:=by simp at hk; omega
    rw [take_getD' hk' hi,take_take' (by omega)]; exact hf k hk'
theorem fitL_take {ys : List VI} {s : List SigI} (hl : ys.length = s.length) {i : Nat} (hi : i ≤ s.length) (hf : ∀ k,k < i → fitI (subI (nxtL (ys.take k)) (ys.getD k vi0)) = true) : fitL (ys.take i):=by
  intro k hk
  have hk' : k < i:=by simp at hk; omega
  rw [take_getD' hk' (by omega),take_take' (by omega)]; exact hf k hk'
theorem readsTo_take {ys : List VI} {s : List SigI} (h : ReadsTo s ys) {i : Nat} (hi : i ≤ s.length) : ReadsTo (s.take i) (ys.take i):=by
  refine ⟨by simp [h.1],fun k hk=>?_⟩
  have hk' : k < i:=by simp at hk; omega
  have hk2 : k < s.length:=by omega
  have:=h.2 k hk2
  rw [take_getD' hk' (by have:=h.1; omega)]
  have e : (s.take i).getD k si0 = s.getD k si0:=by simp [List.getD,hk']
  rw [e]; exact this
set_option maxRecDepth 100000 in
set_option maxHeartbeats 4000000 in
theorem spec_NormalSig (s : List SigI) (hs : s.length ≤ 1048576) (ho : ∀ x ∈ s,x.Ok ∧ sz x.typ ≤ 1048576) (A : List Box) : ACalls Tryz.prog 43 [.slice (sEs s)] A (fun r A'=>∃ o,RdN s o ∧ r = nrR o ∧ A' = A):=by
  refine acalls_enter (cf:=cf 50 [0,2,3,4,5,8,15,23,44]) foll Tryz.func43 Tryz.ntmps43 (by simp [cf]) ?_
  simp only [Tryz.f43,EnterK_some,zW,zX,zD,builtinA,isLeaf,const1,ustrA,simprocAttr,ti3,ti36,ti50,ti69,ca87,ca105,ca118,ca119,ca120,ca121,cf,Tryz.results43]
  refine callO_intro (spec_SigValid s hs ho _) ?_
  rintro r A' ⟨rfl,hA⟩
  have hA:=hA.symm
  subst hA
  cases hb : sigB s with
  | false =>
    simp only [zW,zX,zD,builtinA,isLeaf,const1,ustrA,simprocAttr,ti3,ti36,ti50,ti69,ca87,ca105,ca118,ca119,ca120,ca121,cf,Tryz.results43]
    exact ⟨none,rdN_bad hb,rfl⟩
  | true =>
    obtain ⟨ys,h8,hr,hord⟩:=sigB_yes hb
    have hys:=hr.1
    have hy : ∀ i,i < ys.length → VOk (meanI (ys.getD i vi0)):=fun k hk=>by
      have:=hr.2 k (by omega)
      exact mean_ok this.1 this.2
    have hnm : ∀ i,i < ys.length → (viK (ys.getD i vi0)).2.length < 2 ^ 63:=fun k hk=>by
      have h1:=hr.2 k (by omega)
      rw [← siOf_name,← itemOf_si h1.2]
      exact (ho _ (si_mem (by omega))).1.1
    have hsi : ∀ i,i < ys.length → s.getD i si0 = siOf (ys.getD i vi0):=fun k hk=>itemOf_si (hr.2 k (by omega)).2
    simp only [zW,zX,zD,builtinA,isLeaf,const1,ustrA,simprocAttr,ti3,ti36,ti50,ti69,ca87,ca105,ca118,ca119,ca120,ca121,cf,Tryz.results43]
    refine callO_intro (spec_l2Copy s hs (fun x hx=>(ho x hx).2) _) ?_
    rintro r A' ⟨B,j,rfl,rfl,hj,hg⟩
    simp only [zW,zX,zD,builtinA,isLeaf,const1,ustrA,simprocAttr,ti3,ti36,ti50,ti69,ca87,ca105,ca118,ca119,ca120,ca121,cf,Tryz.results43]
    refine aloop_intro [0,4,5] (fun e A'=>∃ i B,i ≤ s.length ∧ e = [(0,.slice (sEs s)),(4,.own (A.length + j)),(5,.int .i64 i)] ∧ A' = A ++ B ∧ j < B.length ∧ B.getD j .dead = .row 6 (sEs ((zsN ys i).map siOf ++ s.drop i)) 0 ∧ ∀ k,k < i → fitI (subI (nxtL (ys.take k)) (ys.getD k vi0)) = true) (fun e _=>s.length - (intOf (Abs.look 5 e)).toNat) ?_ ?_
    · simp only [zW,zX,zD,builtinA,isLeaf,const1,ustrA,simprocAttr,ti3,ti36,ti50,ti69,ca87,ca105,ca118,ca119,ca120,ca121,cf,Tryz.results43]
      exact ⟨0,B,by omega,rfl,rfl,hj,by rw [hg]; simp [zsN],fun k hk=>by omega⟩
    · rintro e A' ⟨i,B,hi,rfl,rfl,hj,hg,hfit⟩
      have hzl : ((zsN ys i).map siOf).length = i:=by simp [zsN_length]
      have hrl : (sEs ((zsN ys i).map siOf ++ s.drop i)).length = s.length:=by rw [sEs_length]; simp [zsN_length]; omega
      simp only [zW,zX,zD,builtinA,isLeaf,const1,ustrA,simprocAttr,ti3,ti36,ti50,ti69,ca87,ca105,ca118,ca119,ca120,ca121,cf,Tryz.results43,hg,hj,hrl]
      refine condK_intro (fun h2=>?_) (fun h2=>?_)
      · have hi2 : i < s.length:=by simpa using h2
        have hi1 : IntKind.i64.wrap ((i : Int) + 1) = ((i + 1 : Nat) : Int):=by rw [wrap64 (by omega) (by omega)]; rfl
        have pi : (0 : Int) ≤ (i : Int) ∧ (i : Int) < (s.length : Int):=⟨by omega,by omega⟩
        have he:=sEs_getD hi2
        have hm:=mix_getD hzl hi2
        have hset:=fun x=>mix_set x hzl hi2
        have hzs:=zsN_succ ys i
        have hdr:=mix_drop hi2
        have hit:=(hr.2 i hi2).2
        have hyi:=hy i (by omega)
        have hok:=nxtL_pre hy hfit (Nat.le_of_lt (hys ▸ hi2))
        have hno:=@normL_no ys i (by omega) hfit
        have hln:=nxtL_len ys i (by omega)
        have hrd:=readsTo_take hr hi
        have hB:=fun A=>spec_l2Binds (s.take i) (ys.take i) (by simp; omega) hrd (fitL_take hys hi hfit) A
        rw [← take_sEs] at hB
        have hfi : fitI (subI (nxtL (ys.take i)) (ys.getD i vi0)) = true → ∀ k,k < i + 1 → fitI (subI (nxtL (ys.take k)) (ys.getD k vi0)) = true:=fun h k hk=>by
          rcases Nat.lt_succ_iff_lt_or_eq.mp hk with h1 | rfl
          · exact hfit k h1
          · exact h
        have hnone : fitI (subI (nxtL (ys.take i)) (ys.getD i vi0)) = false → RdN s none:=fun h=>.inr ⟨ys,h8,hr,.inr (hno h)⟩
        have hrl' : (sEs ((zsN ys (i + 1)).map siOf ++ s.drop (i + 1))).length = s.length:=by rw [sEs_length]; simp [zsN_length]; omega
        generalize nxtL (ys.take i) = m at *
        generalize s.getD i si0 = x at *
        obtain ⟨k,n,t⟩:=x
        simp only [sE] at he hm
        generalize ys.getD i vi0 = y at *
        cases y with
        | ab n' =>
          obtain ⟨rfl,rfl,rfl⟩:=hit
          simp only [zW,zX,zD,builtinA,isLeaf,const1,ustrA,simprocAttr,ti3,ti36,ti50,ti69,ca87,ca105,ca118,ca119,ca120,ca121,cf,Tryz.results43,hm,hg,hj,hrl,enc_length]
          refine ⟨pi,?_⟩
          simp only [zW,zX,zD,builtinA,isLeaf,const1,ustrA,simprocAttr,ti3,ti36,ti50,ti69,ca87,ca105,ca118,ca119,ca120,ca121,cf,Tryz.results43,hi1,LoopK_eq]
          refine ⟨⟨i + 1,B,by omega,rfl,rfl,hj,?_,hfi (by simp [subI,fitI,meanI,dep,cnt])⟩,?_⟩
          · rw [hg,hzs,hdr]; simp [siOf,subI]
          · simp only [intOf]; omega
        | al n' v =>
          obtain ⟨rfl,rfl,rfl,hv⟩:=hit
          have hz : sz (toTy v) ≤ 1048576:=by have:=sz_toTyS _ hv.ok; have:=hv.cnt; omega
          have hS:=fun A=>spec_l1Subst (m.map ofB) (by simp; omega) (ofB_sz hok) (toTy v) hz A
          rw [subT_eq,subV_foldB] at hS
          have hsub:=sub_ok m hok v hv.ok
          have hcv:=hv.cnt
          simp only [subI] at hzs hfi hnone
          generalize subV m v = w at *
          have hszw:=sz_toTyS w hsub.1
          have hV:=fun A=>spec_TypeValid (toTy w) (ok_toTyS w hsub.1) (by omega) A
          have hval : validB (toTy w) = fitI (.al n w):=by rw [validB_sub hsub.1]; rfl
          rw [hval] at hV
          have hst:=hset ⟨2,n,toTy w⟩
          simp only [sE] at hst
          simp only [zW,zX,zD,builtinA,isLeaf,const1,ustrA,simprocAttr,ti3,ti36,ti50,ti69,ca87,ca105,ca118,ca119,ca120,ca121,cf,Tryz.results43,hm,hg,hj,hrl,enc_length]
          refine ⟨pi,?_⟩
          refine .inr (drawE_intro [(false,0,2),(false,0,2),(false,0,1),(false,0,1),(false,0,1),(false,0,1),(false,0,1),(false,0,0),(false,0,0),(false,0,0),(true,0,0),(true,1,1),(false,2,2),(false,2,2),(true,2,2)] [A ++ B,A ++ B,A ++ B,A ++ B.set j (.row 6 (sEs ((zsN ys (i + 1)).map siOf ++ s.drop (i + 1))) 0)] 3 rfl (by kernel_rfl) (by kernel_rfl) (by kernel_rfl) (by kernel_rfl) (by kernel_rfl) (by kernel_rfl) ?_)
          simp only [zW,zX,zD,builtinA,isLeaf,const1,ustrA,simprocAttr,ti3,ti36,ti50,ti69,ca87,ca105,ca118,ca119,ca120,ca121,cf,Tryz.results43,he,hm,hg,hj,hrl,sEs_length,enc_length,enc_take,sub_drop,frzL_enc,sub_closed,Option.map_some]
          refine ⟨pi,pi,⟨rows_sEs s,by omega,by omega⟩,?_⟩
          refine callE_intro (by simp only [zW,zX,zD,builtinA,isLeaf,const1,ustrA,simprocAttr,Option.map_some] <;> rfl) (hB _) ?_ rfl rfl
          simp only [zW,zX,zD,builtinA,isLeaf,const1,ustrA,simprocAttr,ti3,ti36,ti50,ti69,ca87,ca105,ca118,ca119,ca120,ca121,cf,Tryz.results43,he,hm,hg,hj,hrl,sEs_length,enc_length,enc_take,sub_drop,frzL_enc,sub_closed,Option.map_some]
          refine callE_intro (by simp only [zW,zX,zD,builtinA,isLeaf,const1,ustrA,simprocAttr,enc_length,enc_take,sub_drop,frzL_enc,sub_closed,Option.map_some] <;> rfl) (hS _) ?_ rfl rfl
          simp only [zW,zX,zD,builtinA,isLeaf,const1,ustrA,simprocAttr,ti3,ti36,ti50,ti69,ca87,ca105,ca118,ca119,ca120,ca121,cf,Tryz.results43,he,hm,hg,hj,hrl,hst,sEs_length,enc_length,enc_take,sub_drop,frzL_enc,sub_closed,Option.map_some]
          have hbx : sEs ((zsN ys i).map siOf ++ ⟨2,n,toTy w⟩ :: s.drop (i + 1)) = sEs ((zsN ys (i + 1)).map siOf ++ s.drop (i + 1)):=by rw [hzs]; simp [siOf]
          have hm2 : (sEs ((zsN ys (i + 1)).map siOf ++ s.drop (i + 1))).getD i [] = .int .i64 2 :: .str n :: enc (toTy w):=by
            rw [← hbx,sEs_app,Abs.getD_append_right (by rw [sEs_length]; omega),sEs_length,hzl,Nat.sub_self]
            rfl
          refine ⟨pi,⟨by omega,by omega,fun v hv=>enc_leaf _ v hv⟩,by rw [hbx],?_⟩
          have hgj : ∀ X : Box,(B.set j X).getD j .dead = X:=fun X=>getD_set_self hj
          simp only [zW,zX,zD,builtinA,isLeaf,const1,ustrA,simprocAttr,ti3,ti36,ti50,ti69,ca87,ca105,ca118,ca119,ca120,ca121,cf,Tryz.results43,hgj,hj,hrl',hm2,enc_length,enc_take,sub_drop,frzL_enc,sub_closed,Option.map_some]
          refine ⟨⟨by omega,by rw [sEs_length,List.length_append] at hrl'; omega⟩,?_⟩
          refine callK_intro (by simp only [zW,zX,zD,builtinA,isLeaf,const1,ustrA,simprocAttr,enc_length,enc_take,sub_drop,frzL_enc,sub_closed,Option.map_some]; rfl) (hV _) ?_ rfl; rintro v A' ⟨rfl,rfl⟩
          cases hf : fitI (.al n w) with
          | false =>
            simp only [zW,zX,zD,builtinA,isLeaf,const1,ustrA,simprocAttr,ti3,ti36,ti50,ti69,ca87,ca105,ca118,ca119,ca120,ca121,cf,Tryz.results43]
            exact ⟨none,hnone hf,rfl⟩
          | true =>
            simp only [zW,zX,zD,builtinA,isLeaf,const1,ustrA,simprocAttr,ti3,ti36,ti50,ti69,ca87,ca105,ca118,ca119,ca120,ca121,cf,Tryz.results43,hi1,LoopK_eq]
            refine ⟨⟨i + 1,B.set j _,by omega,rfl,rfl,by simpa using hj,hgj _,hfi hf⟩,?_⟩
            simp only [intOf]; omega
        | va n' v =>
          obtain ⟨rfl,rfl,rfl,hv⟩:=hit
          have hz : sz (toTy v) ≤ 1048576:=by have:=sz_toTyS _ hv.ok; have:=hv.cnt; omega
          have hS:=fun A=>spec_l1Subst (m.map ofB) (by simp; omega) (ofB_sz hok) (toTy v) hz A
          rw [subT_eq,subV_foldB] at hS
          have hsub:=sub_ok m hok v hv.ok
          have hcv:=hv.cnt
          simp only [subI] at hzs hfi hnone
          generalize subV m v = w at *
          have hszw:=sz_toTyS w hsub.1
          have hV:=fun A=>spec_TypeValid (toTy w) (ok_toTyS w hsub.1) (by omega) A
          have hval : validB (toTy w) = fitI (.va n w):=by rw [validB_sub hsub.1]; rfl
          rw [hval] at hV
          have hst:=hset ⟨3,n,toTy w⟩
          simp only [sE] at hst
          simp only [zW,zX,zD,builtinA,isLeaf,const1,ustrA,simprocAttr,ti3,ti36,ti50,ti69,ca87,ca105,ca118,ca119,ca120,ca121,cf,Tryz.results43,hm,hg,hj,hrl,enc_length]
          refine ⟨pi,?_⟩
          refine .inr (drawE_intro [(false,0,2),(false,0,2),(false,0,1),(false,0,1),(false,0,1),(false,0,1),(false,0,1),(false,0,0),(false,0,0),(false,0,0),(true,0,0),(true,1,1),(false,2,2),(false,2,2),(true,2,2)] [A ++ B,A ++ B,A ++ B,A ++ B.set j (.row 6 (sEs ((zsN ys (i + 1)).map siOf ++ s.drop (i + 1))) 0)] 3 rfl (by kernel_rfl) (by kernel_rfl) (by kernel_rfl) (by kernel_rfl) (by kernel_rfl) (by kernel_rfl) ?_)
          simp only [zW,zX,zD,builtinA,isLeaf,const1,ustrA,simprocAttr,ti3,ti36,ti50,ti69,ca87,ca105,ca118,ca119,ca120,ca121,cf,Tryz.results43,he,hm,hg,hj,hrl,sEs_length,enc_length,enc_take,sub_drop,frzL_enc,sub_closed,Option.map_some]
          refine ⟨pi,pi,⟨rows_sEs s,by omega,by omega⟩,?_⟩
          refine callE_intro (by simp only [zW,zX,zD,builtinA,isLeaf,const1,ustrA,simprocAttr,Option.map_some] <;> rfl) (hB _) ?_ rfl rfl
          simp only [zW,zX,zD,builtinA,isLeaf,const1,ustrA,simprocAttr,ti3,ti36,ti50,ti69,ca87,ca105,ca118,ca119,ca120,ca121,cf,Tryz.results43,he,hm,hg,hj,hrl,sEs_length,enc_length,enc_take,sub_drop,frzL_enc,sub_closed,Option.map_some]
          refine callE_intro (by simp only [zW,zX,zD,builtinA,isLeaf,const1,ustrA,simprocAttr,enc_length,enc_take,sub_drop,frzL_enc,sub_closed,Option.map_some] <;> rfl) (hS _) ?_ rfl rfl
          simp only [zW,zX,zD,builtinA,isLeaf,const1,ustrA,simprocAttr,ti3,ti36,ti50,ti69,ca87,ca105,ca118,ca119,ca120,ca121,cf,Tryz.results43,he,hm,hg,hj,hrl,hst,sEs_length,enc_length,enc_take,sub_drop,frzL_enc,sub_closed,Option.map_some]
          have hbx : sEs ((zsN ys i).map siOf ++ ⟨3,n,toTy w⟩ :: s.drop (i + 1)) = sEs ((zsN ys (i + 1)).map siOf ++ s.drop (i + 1)):=by rw [hzs]; simp [siOf]
          have hm2 : (sEs ((zsN ys (i + 1)).map siOf ++ s.drop (i + 1))).getD i [] = .int .i64 3 :: .str n :: enc (toTy w):=by
            rw [← hbx,sEs_app,Abs.getD_append_right (by rw [sEs_length]; omega),sEs_length,hzl,Nat.sub_self]
            rfl
          refine ⟨pi,⟨by omega,by omega,fun v hv=>enc_leaf _ v hv⟩,by rw [hbx],?_⟩
          have hgj : ∀ X : Box,(B.set j X).getD j .dead = X:=fun X=>getD_set_self hj
          simp only [zW,zX,zD,builtinA,isLeaf,const1,ustrA,simprocAttr,ti3,ti36,ti50,ti69,ca87,ca105,ca118,ca119,ca120,ca121,cf,Tryz.results43,hgj,hj,hrl',hm2,enc_length,enc_take,sub_drop,frzL_enc,sub_closed,Option.map_some]
          refine ⟨⟨by omega,by rw [sEs_length,List.length_append] at hrl'; omega⟩,?_⟩
          refine callK_intro (by simp only [zW,zX,zD,builtinA,isLeaf,const1,ustrA,simprocAttr,enc_length,enc_take,sub_drop,frzL_enc,sub_closed,Option.map_some]; rfl) (hV _) ?_ rfl; rintro v A' ⟨rfl,rfl⟩
          cases hf : fitI (.va n w) with
          | false =>
            simp only [zW,zX,zD,builtinA,isLeaf,const1,ustrA,simprocAttr,ti3,ti36,ti50,ti69,ca87,ca105,ca118,ca119,ca120,ca121,cf,Tryz.results43]
            exact ⟨none,hnone hf,rfl⟩
          | true =>
            simp only [zW,zX,zD,builtinA,isLeaf,const1,ustrA,simprocAttr,ti3,ti36,ti50,ti69,ca87,ca105,ca118,ca119,ca120,ca121,cf,Tryz.results43,hi1,LoopK_eq]
            refine ⟨⟨i + 1,B.set j _,by omega,rfl,rfl,by simpa using hj,hgj _,hfi hf⟩,?_⟩
            simp only [intOf]; omega
      · have hi2 : i = s.length:=by simp at h2; omega
        subst hi2
        have hfl : fitL ys:=fun k hk=>hfit k (by omega)
        have hzr:=zsN_reads hr hfl
        have hzo:=ordB_norm hord
        have hsg : sigB ((zsN ys ys.length).map siOf) = true:=by rw [sigB_reads (by simp [zsN_length]; omega) hzr]; exact hzo
        have hzk : ∀ x ∈ (zsN ys ys.length).map siOf,x.Ok ∧ sz x.typ ≤ 1048576:=fun x hx=>by
          obtain ⟨y,hy1,rfl⟩:=List.mem_map.1 hx
          obtain ⟨k,hk,rfl⟩:=List.mem_iff_getElem.1 hy1
          rw [zsN_length] at hk
          have e : (zsN ys ys.length)[k] = subI (nxtL (ys.take k)) (ys.getD k vi0):=by
            rw [← zsN_getD ys hk]; simp [List.getD,zsN_length,hk]
          rw [e]
          exact siOf_ok (zsN_ok hy hfl hk) (by rw [viK_sub]; exact hnm k hk)
        have hM:=fun A=>spec_l2Made ((zsN ys ys.length).map siOf) (by simp [zsN_length]; omega) hzk A
        rw [List.drop_length,List.append_nil,← hys] at hg
        have h1 : (A ++ B).getD (A.length + j) .dead = .row 6 (sEs ((zsN ys ys.length).map siOf)) 0:=by
          rw [Abs.getD_append_right (by omega),show A.length + j - A.length = j by omega]; exact hg
        have hfz : frzs [.own (A.length + j)] (A ++ B) = some ([.slice (sEs ((zsN ys ys.length).map siOf))],A ++ B.set j (.row 6 (sEs ((zsN ys ys.length).map siOf)) (sEs ((zsN ys ys.length).map siOf)).length)):=by
          have h2 : (A ++ B).set (A.length + j) (.row 6 (sEs ((zsN ys ys.length).map siOf)) (sEs ((zsN ys ys.length).map siOf)).length) = A ++ B.set j (.row 6 (sEs ((zsN ys ys.length).map siOf)) (sEs ((zsN ys ys.length).map siOf)).length):=by simp [List.set_append]
          simp only [frzs,frzC,frz1,h1,h2]
        simp only [zW,zX,zD,builtinA,isLeaf,const1,ustrA,simprocAttr,ti3,ti36,ti50,ti69,ca87,ca105,ca118,ca119,ca120,ca121,cf,Tryz.results43]
        refine callK_intro hfz (hM _) ?_ rfl
        rintro r A' ⟨rfl,rfl⟩
        rw [if_pos hsg]
        simp only [sgR]
        simp only [zW,zX,zD,builtinA,isLeaf,const1,ustrA,simprocAttr,ti3,ti36,ti50,ti69,ca87,ca105,ca118,ca119,ca120,ca121,cf,Tryz.results43]
        exact ⟨some (zsN ys ys.length),⟨ys,h8,hr,hord,normL_yes hfl⟩,rfl⟩
end Go.Proofs.YtnjdbgiincliaaaGreat
/- Marks that the laws write into what is owned. -/
set_option linter.unusedVariables false
set_option linter.unusedSimpArgs false
namespace Go.Proofs.YtnjdbgiincliaaaGreat
open Go.Abs
theorem OwnR.append {A : List Box} : ∀ {k1 k2 : List Ty} {r1 r2 : List (List AV)} {S1 S2 : List Nat},OwnR A k1 r1 S1 → OwnR A k2 r2 S2 → OwnR A (k1 ++ k2) (r1 ++ r2) (S1 ++ S2)
  | [],k2,r1,r2,S1,S2,h1,h2=>by
    rw [OwnR] at h1
    rw [h1.1,h1.2]; exact h2
  | t :: k1,k2,r1,r2,S1,S2,h1,h2=>by
    rw [OwnR] at h1
    obtain ⟨r,r',T1,T2,rfl,rfl,h3,h4⟩:=h1
    rw [List.cons_append,OwnR]
    exact ⟨r,r' ++ r2,T1,T2 ++ S2,by simp,by simp,h3,OwnR.append h4 h2⟩
theorem borrow0 {P : Program} {f : FuncId} {args args' : List AV} {A : List Box} {x : AV} (hv : Views A args args') (hx : ifree x = true) (h : ∀ A,ACalls P f args' A (fun v A'=>v = x ∧ A' = A)) : ACalls P f args A (fun v A'=>v = x ∧ A' = A) :=
  ACalls.borrow hv ((h _).mono fun v A' ⟨h1,h2⟩=>⟨[],by rw [h2,List.append_nil],by rw [h1]; exact hx,by simp,h1,by simp⟩)
end Go.Proofs.YtnjdbgiincliaaaGreat
/- A law's argument, a type, as memory of its own. -/
set_option linter.unusedVariables false
set_option linter.unusedSimpArgs false
namespace Go.Proofs.YtnjdbgiincliaaaGreat
open Go.Abs
theorem getD_repl {α : Type} {n i : Nat} {x d : α} (h : i < n) : (List.replicate n x).getD i d = x:=by simp [List.getD,h]
end Go.Proofs.YtnjdbgiincliaaaGreat
/- What is owned holds no place of other memory. -/
set_option linter.unusedVariables false
set_option linter.unusedSimpArgs false
namespace Go.Proofs.YtnjdbgiincliaaaGreat
open Go.Abs
mutual
theorem OwnT.free {A : List Box} : ∀ {t : Ty} {r : List AV} {S : List Nat},OwnT A t r S → ifrees r = true ∧ ∀ i ∈ S,ifreeB (A.getD i .dead) = true
  | .mk k m n ks,r,S,h=>by
    rw [OwnT] at h
    obtain ⟨v,rfl,h⟩:=h
    rcases h with ⟨rfl,_,rfl⟩ | ⟨rfl,_,rfl⟩ | ⟨i,rows,S',rfl,rfl,h3,h4⟩
    · exact ⟨by simp [ifrees,ifree],by simp⟩
    · exact ⟨by simp [ifrees,ifree],by simp⟩
    · refine ⟨by simp [ifrees,ifree],fun j hj=>?_⟩
      have h5:=OwnR.free h4
      rcases List.mem_cons.1 hj with rfl | hj
      · rw [h3]; exact h5.1
      · exact h5.2 j hj
theorem OwnR.free {A : List Box} : ∀ {ks : List Ty} {rows : List (List AV)} {S : List Nat},OwnR A ks rows S → rows.all ifrees = true ∧ ∀ i ∈ S,ifreeB (A.getD i .dead) = true
  | [],rows,S,h=>by rw [OwnR] at h; rw [h.1,h.2]; exact ⟨rfl,by simp⟩
  | t :: ks,rows,S,h=>by
    rw [OwnR] at h
    obtain ⟨r,rows',S1,S2,rfl,rfl,h3,h4⟩:=h
    have a:=OwnT.free h3
    have b:=OwnR.free h4
    refine ⟨by rw [List.all_cons,a.1,b.1]; rfl,fun j hj=>?_⟩
    rcases List.mem_append.1 hj with hj | hj
    · exact a.2 j hj
    · exact b.2 j hj
end
end Go.Proofs.YtnjdbgiincliaaaGreat
/- Marks in a list of items that is owned. -/
set_option linter.unusedVariables false
set_option linter.unusedSimpArgs false
namespace Go.Proofs.YtnjdbgiincliaaaGreat
open Go.Abs
theorem enc4s (t : Ty) : enc t = [.int .i64 t.kind,.str t.mod,.str t.name,.slice (encs t.kids)]:=by cases t; rw [enc]; rfl
theorem sE6 (x : SigI) : sE x = [.int .i64 x.kind,.str x.name,.int .i64 x.typ.kind,.str x.typ.mod,.str x.typ.name,.slice (encs x.typ.kids)]:=by rw [sE,enc4s]
def sRow (b : SigI) (v : AV) : List AV:=[.int .i64 b.kind,.str b.name,.int .i64 b.typ.kind,.str b.typ.mod,.str b.typ.name,v]
def OwnG (A : List Box) : List SigI → List (List AV) → List Nat → Prop
  | [],rows,S=>rows = [] ∧ S = []
  | b :: bs,rows,S=>∃ v rows' S1 S2,rows = sRow b v :: rows' ∧ S = S1 ++ S2 ∧ OwnK A b.typ.kids v S1 ∧ OwnG A bs rows' S2
theorem OwnG.frame {A A' : List Box} : ∀ {bs : List SigI} {rows : List (List AV)} {S : List Nat},OwnG A bs rows S → (∀ i ∈ S,A'.getD i .dead = A.getD i .dead) → OwnG A' bs rows S
  | [],rows,S,h,hf=>h
  | b :: bs,rows,S,h,hf=>by
    rw [OwnG] at h ⊢
    obtain ⟨v,rows',S1,S2,h1,rfl,h3,h4⟩:=h
    exact ⟨v,rows',S1,S2,h1,rfl,h3.frame fun j hj=>hf j (by simp [hj]),OwnG.frame h4 fun j hj=>hf j (by simp [hj])⟩
theorem OwnG.length {A : List Box} : ∀ {bs : List SigI} {rows : List (List AV)} {S : List Nat},OwnG A bs rows S → rows.length = bs.length
  | [],rows,S,h=>by rw [OwnG] at h; rw [h.1]; rfl
  | b :: bs,rows,S,h=>by
    rw [OwnG] at h
    obtain ⟨v,rows',S1,S2,rfl,h2,h3,h4⟩:=h
    simp [OwnG.length h4]
theorem OwnG.low {A : List Box} : ∀ {bs : List SigI} {rows : List (List AV)} {S : List Nat},OwnG A bs rows S → ∀ i ∈ S,i < A.length
  | [],rows,S,h=>by rw [OwnG] at h; rw [h.2]; simp
  | b :: bs,rows,S,h=>by
    rw [OwnG] at h
    obtain ⟨v,rows',S1,S2,h1,rfl,h3,h4⟩:=h
    intro j hj
    rcases List.mem_append.1 hj with hj | hj
    · exact h3.low j hj
    · exact OwnG.low h4 j hj
theorem OwnG.append {A : List Box} : ∀ {k1 k2 : List SigI} {r1 r2 : List (List AV)} {S1 S2 : List Nat},OwnG A k1 r1 S1 → OwnG A k2 r2 S2 → OwnG A (k1 ++ k2) (r1 ++ r2) (S1 ++ S2)
  | [],k2,r1,r2,S1,S2,h1,h2=>by
    rw [OwnG] at h1
    rw [h1.1,h1.2]; exact h2
  | t :: k1,k2,r1,r2,S1,S2,h1,h2=>by
    rw [OwnG] at h1
    obtain ⟨v,r',T1,T2,rfl,rfl,h3,h4⟩:=h1
    rw [List.cons_append,OwnG]
    exact ⟨v,r' ++ r2,T1,T2 ++ S2,by simp,by simp,h3,OwnG.append h4 h2⟩
theorem OwnG.view {A : List Box} : ∀ {bs : List SigI} {rows : List (List AV)} {S : List Nat},OwnG A bs rows S → ∀ k,k < rows.length → ∀ j,j < 6 → View A ((rows.getD k []).getD j .bot) ((sE (bs.getD k si0)).getD j .bot)
  | [],rows,S,h=>by rw [OwnG] at h; rw [h.1]; intro k hk; simp at hk
  | b :: bs,rows,S,h=>by
    rw [OwnG] at h
    obtain ⟨v,rows',S1,S2,rfl,h2,h3,h4⟩:=h
    intro k hk j hj
    cases k with
    | zero =>
      have hv:=h3.view
      have e0 : (sE ((b :: bs).getD 0 si0)) = sE b:=rfl
      rw [e0,sE6]
      match j,hj with
      | 0,_=>exact .leaf _ rfl
      | 1,_=>exact .leaf _ rfl
      | 2,_=>exact .leaf _ rfl
      | 3,_=>exact .leaf _ rfl
      | 4,_=>exact .leaf _ rfl
      | 5,_=>exact hv
    | succ k =>
      have:=OwnG.view h4 k (by simpa using hk) j hj
      simpa using this
theorem OwnG.viewG {A : List Box} {bs : List SigI} {rows : List (List AV)} {S : List Nat} {i : Nat} (h : A.getD i .dead = .gr none 6 rows) (hb : OwnG A bs rows S) : View A (.own i) (.slice (sEs bs)):=by
  refine .gr i 6 none rows (sEs bs) h (by rw [sEs_length,hb.length]) (fun r hr=>?_) fun k j hk hj=>?_
  · obtain ⟨t,_,rfl⟩:=List.mem_map.1 hr
    exact ⟨sE_length t,sE_leaf t⟩
  · unfold Abs.rowAt
    rw [sEs_getD (by rw [← hb.length]; exact hk)]
    exact hb.view k hk j hj
def NewG (A : List Box) (bs : List SigI) (j : Nat) (A' : List Box) : Prop :=
  A.length ≤ A'.length ∧ (∀ k,k < A.length → A'.getD k .dead = A.getD k .dead) ∧ ∃ rows S,A'.getD j .dead = .gr none 6 rows ∧ OwnG A' bs rows S ∧ (j :: S).Nodup ∧ ∀ i ∈ j :: S,A.length ≤ i
end Go.Proofs.YtnjdbgiincliaaaGreat
namespace Go.Proofs.YtnjdbgiincliaaaGreat
open Go.Abs
def OwnI (A : List Box) (xs : List SigI) (v : AV) (S : List Nat) : Prop :=
  (v = .nils ∧ xs = [] ∧ S = []) ∨ ∃ i rows S',v = .own i ∧ S = i :: S' ∧ A.getD i .dead = .gr none 6 rows ∧ OwnG A xs rows S'
theorem OwnI.frame {A A' : List Box} {xs : List SigI} {v : AV} {S : List Nat} (h : OwnI A xs v S) (hf : ∀ i ∈ S,A'.getD i .dead = A.getD i .dead) : OwnI A' xs v S:=by
  rcases h with h | ⟨i,rows,S',h1,h2,h3,h4⟩
  · exact .inl h
  · subst h2
    exact .inr ⟨i,rows,S',h1,rfl,by rw [hf i (by simp)]; exact h3,h4.frame fun j hj=>hf j (by simp [hj])⟩
theorem OwnI.low {A : List Box} {xs : List SigI} {v : AV} {S : List Nat} (h : OwnI A xs v S) : ∀ i ∈ S,i < A.length:=by
  rcases h with ⟨_,_,rfl⟩ | ⟨i,rows,S',h1,rfl,h3,h4⟩
  · simp
  · intro j hj
    rcases List.mem_cons.1 hj with rfl | hj
    · exact live_lt h3 (by simp)
    · exact h4.low j hj
theorem OwnI.view {A : List Box} {xs : List SigI} {v : AV} {S : List Nat} (h : OwnI A xs v S) : View A v (.slice (sEs xs)):=by
  rcases h with ⟨rfl,rfl,_⟩ | ⟨i,rows,S',rfl,_,h3,h4⟩
  · exact .nils
  · exact OwnG.viewG h3 h4
end Go.Proofs.YtnjdbgiincliaaaGreat
namespace Go.Proofs.YtnjdbgiincliaaaGreat
open Go.Abs
end Go.Proofs.YtnjdbgiincliaaaGreat
