/- DrawSigs. -/
import Derived.Test.YtnjdbgiincliaaaGreatN10
import Derived.Test.YtnjdbgiincliaaaGreatAbsW3
/- The drawn signatures of the laws. -/
set_option linter.unusedVariables false
set_option linter.unusedSimpArgs false
namespace Go.Proofs.YtnjdbgiincliaaaGreat
open Go.Abs
def TypC (bs : List UInt8) (s : List SigI) (n : Nat) : Prop:=∀ (d : Int) (p : Nat) (i : Nat) (A : List Box) (hi : i < A.length) (hA : A.getD i .dead = Rd bs p) (hn : d ≤ n + 1) (hd : d ≤ 10 ∧ -10 ≤ d) (hp : p + 2 ^ (n + 2) < 2 ^ 38),
    ACalls Tryz.prog 190 [.ptr i 0,.slice (sEs s),.int .i64 d] A (fun r A'=>∃ τ p',r = .agg (enc τ) ∧ sz τ + 2 ≤ 2 ^ (n + 2) ∧ p ≤ p' ∧ p' + 1 ≤ p + 2 ^ (n + 2) ∧ A' = A.set i (Rd bs p'))
set_option maxRecDepth 100000 in
set_option maxHeartbeats 4000000 in
theorem spec_l2Type_step (bs : List UInt8) (s : List SigI) (hs : s.length ≤ 20) (hnm : ∀ x ∈ s,x.name.length ≤ 2) (n : Nat) (ih : ∀ m,n = m + 1 → TypC bs s m) : TypC bs s n:=by
  intro d p i A hi hA hn hd hp
  have h4 : 4 ≤ 2 ^ (n + 2):=by have : 2 ^ 2 ≤ 2 ^ (n + 2):=Nat.pow_le_pow_right (by decide) (by omega); omega
  have hgA : ∀ X (B : List Box),(A.set i X ++ B).getD i .dead = X:=fun X B=>by rw [getD_app1 _ _ _ _ (by simpa using hi),getD_set1 hi]
  have hgA0 : ∀ (B : List Box),(A ++ B).getD i .dead = Rd bs p:=fun B=>by rw [getD_app1 _ _ _ _ hi]; exact hA
  refine acalls_enter (cf:=cf 63 [0,1,2,6,7,8,15,32,39,51]) foll Tryz.func190 Tryz.ntmps190 (by simp [cf]) ?_
  simp only [Tryz.f190,EnterK_some,zW,zX,zD,builtinA,isLeaf,const1,ustrA,simprocAttr,ti3,ti9,ti34,ti36,ti48,ti50,ti69,ca101,ca115,ca188,ca189,ca190,ca246,ca256,cf,Tryz.results190]
  by_cases h2 : d > 1
  · have e1 : decide (d > 1) = true:=decide_eq_true h2
    have e1' : decide (1 < d) = true:=decide_eq_true h2
    simp only [zW,zX,zD,builtinA,isLeaf,const1,ustrA,simprocAttr,ti3,ti9,ti34,ti36,ti48,ti50,ti69,ca101,ca115,ca188,ca189,ca190,ca246,ca256,cf,Tryz.results190,hi,e1,e1']
    refine callK_intro (by simp only [zW,zX,zD,builtinA,isLeaf,const1,ustrA,simprocAttr]; rfl) (spec_pick bs p 3 i _ (by simp; omega) (hgA0 _) (by omega) (by omega)) ?_ rfl
    rintro v A' ⟨j1,rfl,h0,h1,rfl⟩
    by_cases hj : j1 > 0
    · have e2 : decide (j1 > 0) = true:=decide_eq_true hj
      have e2' : decide (0 < j1) = true:=decide_eq_true hj
      obtain ⟨m,rfl⟩ : ∃ m,n = m + 1:=⟨n - 1,by omega⟩
      have h2p : 2 ^ (m + 1 + 2) = 2 * 2 ^ (m + 2):=by rw [Nat.pow_add 2 (m + 1) 2,Nat.pow_add 2 m 2,Nat.pow_succ]; omega
      have hw : IntKind.i64.wrap (d - 1) = d - 1:=wrap64 (by omega) (by omega)
      simp only [zW,zX,zD,builtinA,isLeaf,const1,ustrA,simprocAttr,ti3,ti9,ti34,ti36,ti48,ti50,ti69,ca101,ca115,ca188,ca189,ca190,ca246,ca256,cf,Tryz.results190,hi,e2,e2',hw]
      refine callK_intro (by simp only [zW,zX,zD,builtinA,isLeaf,const1,ustrA,simprocAttr]; rfl) (ih m rfl (d - 1) (p + 1) i _ (by simp; omega) (hgA _ _) (by omega) (by omega) (by omega)) ?_ rfl
      rintro v A' ⟨τ1,p1,rfl,z1,q1,q2,rfl⟩
      simp only [zW,zX,zD,builtinA,isLeaf,const1,ustrA,simprocAttr,ti3,ti9,ti34,ti36,ti48,ti50,ti69,ca101,ca115,ca188,ca189,ca190,ca246,ca256,cf,Tryz.results190,hi,hw,enc_length,enc_take,enc_drop,frzL_enc,enc_closed,Option.map_some]
      refine callK_intro (by simp only [zW,zX,zD,builtinA,isLeaf,const1,ustrA,simprocAttr,enc_length,enc_take,enc_drop,frzL_enc,enc_closed,Option.map_some]; rfl) (ih m rfl (d - 1) p1 i _ (by simp; omega) (hgA _ _) (by omega) (by omega) (by omega)) ?_ rfl
      rintro v A' ⟨τ2,p2,rfl,z2,q3,q4,rfl⟩
      simp only [zW,zX,zD,builtinA,isLeaf,const1,ustrA,simprocAttr,ti3,ti9,ti34,ti36,ti48,ti50,ti69,ca101,ca115,ca188,ca189,ca190,ca246,ca256,cf,Tryz.results190,hi,enc_length,enc_take,enc_drop,frzL_enc,enc_closed,Option.map_some]
      refine callK_intro (by simp only [zW,zX,zD,builtinA,isLeaf,const1,ustrA,simprocAttr,enc_length,enc_take,enc_drop,frzL_enc,enc_closed,Option.map_some]; rfl) (spec_l1Fun τ1 τ2 _) ?_ rfl; rintro v A' ⟨rfl,rfl⟩
      simp only [zW,zX,zD,builtinA,isLeaf,const1,ustrA,simprocAttr,ti3,ti9,ti34,ti36,ti48,ti50,ti69,ca101,ca115,ca188,ca189,ca190,ca246,ca256,cf,Tryz.results190,hi,enc_length,enc_take,enc_drop,frzL_enc,enc_closed,Option.map_some]
      refine ⟨outer_set A _ i _ (rd_closed _ _ _),.mk 2 [] [] [τ1,τ2],p2,rfl,?_,by omega,by omega,rfl⟩
      simp only [sz,szs,List.length_nil,List.length_cons]; omega
    · have e2 : decide (j1 > 0) = false:=decide_eq_false hj
      have e2' : decide (0 < j1) = false:=decide_eq_false hj
      simp only [zW,zX,zD,builtinA,isLeaf,const1,ustrA,simprocAttr,ti3,ti9,ti34,ti36,ti48,ti50,ti69,ca101,ca115,ca188,ca189,ca190,ca246,ca256,cf,Tryz.results190,hi,e2,e2']
      refine callO_intro (spec_l1Num _) ?_
      rintro r A' ⟨rfl,rfl⟩
      have hl0 : (sEs s).length = s.length:=sEs_length s
      have z1 : sz (toTy .num) ≤ 2:=by decide
      simp only [zW,zX,zD,builtinA,isLeaf,const1,ustrA,simprocAttr,ti3,ti9,ti34,ti36,ti48,ti50,ti69,ca101,ca115,ca188,ca189,ca190,ca246,ca256,cf,Tryz.results190,hi,enc_length,enc_take,enc_drop,frzL_enc,enc_closed,Option.map_some]
      refine ⟨fun v hv=>enc_leaf _ v hv,?_⟩
      refine aloop_intro [0,1,6,7,8] (fun e A'=>∃ k ts j B,k ≤ s.length ∧ 0 < ts.length ∧ ts.length ≤ k + 1 ∧ (∀ t ∈ ts,sz t ≤ 2) ∧ e = [(0,.ptr i 0),(1,.slice (sEs s)),(6,.ptr A.length 0),(7,.own (A.length + j)),(8,.int .i64 (k : Nat))] ∧ A' = (A.set i (Rd bs (p + 1))) ++ B ∧ j < B.length ∧ B.getD j .dead = .row 4 (encs ts) 0 ∧ B.getD 0 .dead = .cells [.int .i64 0,.str [],.str [],.nils]) (fun e _=>s.length - (intOf (Abs.look 8 e)).toNat) ?_ ?_
      · simp only [zW,zX,zD,builtinA,isLeaf,const1,ustrA,simprocAttr,ti3,ti9,ti34,ti36,ti48,ti50,ti69,ca101,ca115,ca188,ca189,ca190,ca246,ca256,cf,Tryz.results190]
        exact ⟨0,[toTy .num],1,[.cells [.int .i64 0,.str [],.str [],.nils],.row 4 [enc (toTy .num)] 0],by omega,by simp,by simp,by simpa using z1,rfl,rfl,by simp,by simp [List.getD,encs],by simp⟩
      · rintro e A' ⟨k,ts,j,B,hk,ht0,ht1,htz,rfl,rfl,hj,hg,hg0⟩
        have hiP : i < (A.set i (Rd bs (p + 1))).length:=by first | exact hi | simpa using hi
        have hPl : (A.set i (Rd bs (p + 1))).length = A.length:=by first | rfl | simp
        simp only [zW,zX,zD,builtinA,isLeaf,const1,ustrA,simprocAttr,ti3,ti9,ti34,ti36,ti48,ti50,ti69,ca101,ca115,ca188,ca189,ca190,ca246,ca256,cf,Tryz.results190,sEs_length]
        refine condK_intro (fun h2=>?_) (fun h2=>?_)
        · have hk2 : k < s.length:=by simpa using h2
          have he:=sEs_getD hk2
          have hnk:=hnm _ (si_mem hk2)
          have hty:=fun A=>spec_l2IsType (s.getD k si0) A
          have hk1 : IntKind.i64.wrap ((k : Int) + 1) = ((k + 1 : Nat) : Int):=by rw [wrap64 (by omega) (by omega)]; rfl
          have pk : (0 : Int) ≤ (k : Int) ∧ (k : Int) < (s.length : Int):=⟨by omega,by omega⟩
          generalize s.getD k si0 = x at *
          obtain ⟨xk,xn,xt⟩:=x
          simp only [sE] at he hty
          simp only [zW,zX,zD,builtinA,isLeaf,const1,ustrA,simprocAttr,ti3,ti9,ti34,ti36,ti48,ti50,ti69,ca101,ca115,ca188,ca189,ca190,ca246,ca256,cf,Tryz.results190,he,sEs_length,enc_length,enc_take]
          refine ⟨pk,?_⟩
          refine callK_intro (by simp only [zW,zX,zD,builtinA,isLeaf,const1,ustrA,simprocAttr,enc_length,enc_take,enc_drop,frzL_enc,enc_closed,Option.map_some]; rfl) (hty _) ?_ rfl; rintro v A' ⟨rfl,rfl⟩
          cases hT : isTB ⟨xk,xn,xt⟩ with
          | false =>
            simp only [zW,zX,zD,builtinA,isLeaf,const1,ustrA,simprocAttr,ti3,ti9,ti34,ti36,ti48,ti50,ti69,ca101,ca115,ca188,ca189,ca190,ca246,ca256,cf,Tryz.results190,hk1,LoopK_eq]
            refine ⟨⟨k + 1,ts,j,B,by omega,ht0,by omega,htz,rfl,rfl,hj,hg,hg0⟩,?_⟩
            simp only [intOf]; omega
          | true =>
            have hgX : ∀ Y,(B ++ Y).getD j .dead = .row 4 (encs ts) 0:=fun Y=>by rw [Abs.getD_append_left hj]; exact hg
            have hsX : ∀ Y : List Box,(B ++ Y).set j .dead = B.set j .dead ++ Y:=fun Y=>by rw [List.set_append_left _ _ hj]
            have hjX : ∀ n,j < B.length + n:=fun n=>by omega
            have hN:=fun A=>spec_l1Name [] xn A
            simp only [zW,zX,zD,builtinA,isLeaf,const1,ustrA,simprocAttr,ti3,ti9,ti34,ti36,ti48,ti50,ti69,ca101,ca115,ca188,ca189,ca190,ca246,ca256,cf,Tryz.results190,he,sEs_length,enc_length,enc_take]
            refine ⟨pk,?_⟩
            refine callK_intro (by simp only [zW,zX,zD,builtinA,isLeaf,const1,ustrA,simprocAttr,enc_length,enc_take,enc_drop,frzL_enc,enc_closed,Option.map_some]; rfl) (hN _) ?_ rfl; rintro v A' ⟨rfl,rfl⟩
            simp only [zW,zX,zD,builtinA,isLeaf,const1,ustrA,simprocAttr,ti3,ti9,ti34,ti36,ti48,ti50,ti69,ca101,ca115,ca188,ca189,ca190,ca246,ca256,cf,Tryz.results190,hPl,hgX,hsX,hjX,hj,hg,enc_length,enc_take,enc_drop,frzL_enc,enc_closed,Option.map_some]
            have hsn : encs ts ++ [enc (toTy (.nm [] xn))] = encs (ts ++ [toTy (.nm [] xn)]):=by rw [encs_map,encs_map]; simp
            refine ⟨fun v hv=>enc_leaf _ v hv,⟨fun r hr=>by rw [List.mem_singleton.1 hr,enc_length],by rw [encs_length]; omega⟩,?_⟩
            simp only [zW,zX,zD,builtinA,isLeaf,const1,ustrA,simprocAttr,ti3,ti9,ti34,ti36,ti48,ti50,ti69,ca101,ca115,ca188,ca189,ca190,ca246,ca256,cf,Tryz.results190,hk1,LoopK_eq]
            refine ⟨⟨k + 1,ts ++ [toTy (.nm [] xn)],B.length + 1,_,by omega,by simp,by simp; omega,fun t ht=>?_,rfl,rfl,by simp,?_,?_⟩,?_⟩
            · rcases List.mem_append.1 ht with ht | ht
              · exact htz t ht
              · rw [List.mem_singleton.1 ht]; simp only [toTy,sz,szs,List.length_nil]; simp only at hnk; omega
            · rw [Abs.getD_append_right (by simp),← hsn]; simp
            · have hj0 : j ≠ 0:=fun e=>by rw [e,hg0] at hg; cases hg
              rw [Abs.getD_append_left (by simp; omega),getD_set_ne' hj0]; exact hg0
            · simp only [intOf]; omega
        · have hk2 : k = s.length:=by simp at h2; omega
          have hgi : ∀ Y,((A.set i (Rd bs (p + 1))) ++ Y).getD i .dead = Rd bs (p + 1):=fun Y=>by first | exact hgA0 Y | exact hgA _ Y
          have hel:=encs_length ts
          have hB0 : 0 < B.length:=by omega
          simp only [zW,zX,zD,builtinA,isLeaf,const1,ustrA,simprocAttr,ti3,ti9,ti34,ti36,ti48,ti50,ti69,ca101,ca115,ca188,ca189,ca190,ca246,ca256,cf,Tryz.results190]
          refine callK_intro (by simp only [zW,zX,zD,builtinA,isLeaf,const1,ustrA,simprocAttr]; rfl) (spec_pick bs (p + 1) 8 i _ (by simp; omega) (hgi _) (by omega) (by omega)) ?_ rfl
          rintro v A' ⟨j2,rfl,q0,q1,rfl⟩
          by_cases k0 : j2 = 0
          · simp only [zW,zX,zD,builtinA,isLeaf,const1,ustrA,simprocAttr,ti3,ti9,ti34,ti36,ti48,ti50,ti69,ca101,ca115,ca188,ca189,ca190,ca246,ca256,cf,Tryz.results190,hi,hiP,decide_eq_true k0]
            refine ⟨by simp,?_⟩
            refine callK_intro (by simp only [zW,zX,zD,builtinA,isLeaf,const1,ustrA,simprocAttr,hi]; rfl) (spec_of bs ((p + 1) + 1) [[65],[66]] i _ (by simp; omega) (hgA _ _) (by omega) (by simp)) ?_ rfl
            rintro v A' ⟨m,rfl,hm,rfl⟩
            have hml : m.length = 1:=by simp at hm; rcases hm with rfl | rfl <;> rfl
            have hN:=fun A=>spec_l1Name m [116] A
            simp only [zW,zX,zD,builtinA,isLeaf,const1,ustrA,simprocAttr,ti3,ti9,ti34,ti36,ti48,ti50,ti69,ca101,ca115,ca188,ca189,ca190,ca246,ca256,cf,Tryz.results190,hi,hiP,hPl,hg0,hB0]
            refine callK_intro (by simp only [zW,zX,zD,builtinA,isLeaf,const1,ustrA,simprocAttr,enc_length,enc_take,enc_drop,frzL_enc,enc_closed,Option.map_some]; rfl) (hN _) ?_ rfl; rintro v A' ⟨rfl,rfl⟩
            simp only [zW,zX,zD,builtinA,isLeaf,const1,ustrA,simprocAttr,ti3,ti9,ti34,ti36,ti48,ti50,ti69,ca101,ca115,ca188,ca189,ca190,ca246,ca256,cf,Tryz.results190,hi,hiP,hPl,hg0,hB0,enc_length,enc_take,enc_drop,frzL_enc,enc_closed,Option.map_some]
            refine ⟨outer_set A _ i _ (rd_closed _ _ _),_,(p + 1) + 1 + 1,rfl,?_,by omega,by omega,rfl⟩
            simp only [toTy,sz,szs,List.length_nil,List.length_cons,hml]; omega
          · simp only [zW,zX,zD,builtinA,isLeaf,const1,ustrA,simprocAttr,ti3,ti9,ti34,ti36,ti48,ti50,ti69,ca101,ca115,ca188,ca189,ca190,ca246,ca256,cf,Tryz.results190,hi,hiP,hPl,hg,hj,hg0,hB0,hel,decide_eq_false k0]
            refine callK_intro (by simp only [zW,zX,zD,builtinA,isLeaf,const1,ustrA,simprocAttr,hi]; rfl) (spec_pick bs ((p + 1) + 1) ts.length i _ (by simp; omega) (hgA _ _) (by omega) (by omega)) ?_ rfl
            rintro v A' ⟨j3,rfl,q2,q3,rfl⟩
            obtain ⟨q,rfl⟩:=Int.eq_ofNat_of_zero_le q2
            have hq : q < ts.length:=by have:=q3 (by omega); omega
            have heq:=encs_getD hq
            have hzq:=htz _ (getD_mem hq)
            simp only [zW,zX,zD,builtinA,isLeaf,const1,ustrA,simprocAttr,ti3,ti9,ti34,ti36,ti48,ti50,ti69,ca101,ca115,ca188,ca189,ca190,ca246,ca256,cf,Tryz.results190,hi,hiP,hPl,hg,hj,hg0,hB0,hel,heq,enc_length,enc_take,enc_drop,frzL_enc,enc_closed,Option.map_some]
            exact ⟨⟨by omega,by omega⟩,outer_set A _ i _ (rd_closed _ _ _),_,(p + 1) + 1 + 1,rfl,by omega,by omega,by omega,rfl⟩
  · have e1 : decide (d > 1) = false:=decide_eq_false h2
    have e1' : decide (1 < d) = false:=decide_eq_false h2
    simp only [zW,zX,zD,builtinA,isLeaf,const1,ustrA,simprocAttr,ti3,ti9,ti34,ti36,ti48,ti50,ti69,ca101,ca115,ca188,ca189,ca190,ca246,ca256,cf,Tryz.results190,hi,e1,e1']
    refine callO_intro (spec_l1Num _) ?_
    rintro r A' ⟨rfl,rfl⟩
    have hl0 : (sEs s).length = s.length:=sEs_length s
    have z1 : sz (toTy .num) ≤ 2:=by decide
    simp only [zW,zX,zD,builtinA,isLeaf,const1,ustrA,simprocAttr,ti3,ti9,ti34,ti36,ti48,ti50,ti69,ca101,ca115,ca188,ca189,ca190,ca246,ca256,cf,Tryz.results190,hi,enc_length,enc_take,enc_drop,frzL_enc,enc_closed,Option.map_some]
    refine ⟨fun v hv=>enc_leaf _ v hv,?_⟩
    refine aloop_intro [0,1,6,7,8] (fun e A'=>∃ k ts j B,k ≤ s.length ∧ 0 < ts.length ∧ ts.length ≤ k + 1 ∧ (∀ t ∈ ts,sz t ≤ 2) ∧ e = [(0,.ptr i 0),(1,.slice (sEs s)),(6,.ptr A.length 0),(7,.own (A.length + j)),(8,.int .i64 (k : Nat))] ∧ A' = A ++ B ∧ j < B.length ∧ B.getD j .dead = .row 4 (encs ts) 0 ∧ B.getD 0 .dead = .cells [.int .i64 0,.str [],.str [],.nils]) (fun e _=>s.length - (intOf (Abs.look 8 e)).toNat) ?_ ?_
    · simp only [zW,zX,zD,builtinA,isLeaf,const1,ustrA,simprocAttr,ti3,ti9,ti34,ti36,ti48,ti50,ti69,ca101,ca115,ca188,ca189,ca190,ca246,ca256,cf,Tryz.results190]
      exact ⟨0,[toTy .num],1,[.cells [.int .i64 0,.str [],.str [],.nils],.row 4 [enc (toTy .num)] 0],by omega,by simp,by simp,by simpa using z1,rfl,rfl,by simp,by simp [List.getD,encs],by simp⟩
    · rintro e A' ⟨k,ts,j,B,hk,ht0,ht1,htz,rfl,rfl,hj,hg,hg0⟩
      have hiP : i < A.length:=by first | exact hi | simpa using hi
      have hPl : A.length = A.length:=by first | rfl | simp
      simp only [zW,zX,zD,builtinA,isLeaf,const1,ustrA,simprocAttr,ti3,ti9,ti34,ti36,ti48,ti50,ti69,ca101,ca115,ca188,ca189,ca190,ca246,ca256,cf,Tryz.results190,sEs_length]
      refine condK_intro (fun h2=>?_) (fun h2=>?_)
      · have hk2 : k < s.length:=by simpa using h2
        have he:=sEs_getD hk2
        have hnk:=hnm _ (si_mem hk2)
        have hty:=fun A=>spec_l2IsType (s.getD k si0) A
        have hk1 : IntKind.i64.wrap ((k : Int) + 1) = ((k + 1 : Nat) : Int):=by rw [wrap64 (by omega) (by omega)]; rfl
        have pk : (0 : Int) ≤ (k : Int) ∧ (k : Int) < (s.length : Int):=⟨by omega,by omega⟩
        generalize s.getD k si0 = x at *
        obtain ⟨xk,xn,xt⟩:=x
        simp only [sE] at he hty
        simp only [zW,zX,zD,builtinA,isLeaf,const1,ustrA,simprocAttr,ti3,ti9,ti34,ti36,ti48,ti50,ti69,ca101,ca115,ca188,ca189,ca190,ca246,ca256,cf,Tryz.results190,he,sEs_length,enc_length,enc_take]
        refine ⟨pk,?_⟩
        refine callK_intro (by simp only [zW,zX,zD,builtinA,isLeaf,const1,ustrA,simprocAttr,enc_length,enc_take,enc_drop,frzL_enc,enc_closed,Option.map_some]; rfl) (hty _) ?_ rfl; rintro v A' ⟨rfl,rfl⟩
        cases hT : isTB ⟨xk,xn,xt⟩ with
        | false =>
          simp only [zW,zX,zD,builtinA,isLeaf,const1,ustrA,simprocAttr,ti3,ti9,ti34,ti36,ti48,ti50,ti69,ca101,ca115,ca188,ca189,ca190,ca246,ca256,cf,Tryz.results190,hk1,LoopK_eq]
          refine ⟨⟨k + 1,ts,j,B,by omega,ht0,by omega,htz,rfl,rfl,hj,hg,hg0⟩,?_⟩
          simp only [intOf]; omega
        | true =>
          have hgX : ∀ Y,(B ++ Y).getD j .dead = .row 4 (encs ts) 0:=fun Y=>by rw [Abs.getD_append_left hj]; exact hg
          have hsX : ∀ Y : List Box,(B ++ Y).set j .dead = B.set j .dead ++ Y:=fun Y=>by rw [List.set_append_left _ _ hj]
          have hjX : ∀ n,j < B.length + n:=fun n=>by omega
          have hN:=fun A=>spec_l1Name [] xn A
          simp only [zW,zX,zD,builtinA,isLeaf,const1,ustrA,simprocAttr,ti3,ti9,ti34,ti36,ti48,ti50,ti69,ca101,ca115,ca188,ca189,ca190,ca246,ca256,cf,Tryz.results190,he,sEs_length,enc_length,enc_take]
          refine ⟨pk,?_⟩
          refine callK_intro (by simp only [zW,zX,zD,builtinA,isLeaf,const1,ustrA,simprocAttr,enc_length,enc_take,enc_drop,frzL_enc,enc_closed,Option.map_some]; rfl) (hN _) ?_ rfl; rintro v A' ⟨rfl,rfl⟩
          simp only [zW,zX,zD,builtinA,isLeaf,const1,ustrA,simprocAttr,ti3,ti9,ti34,ti36,ti48,ti50,ti69,ca101,ca115,ca188,ca189,ca190,ca246,ca256,cf,Tryz.results190,hPl,hgX,hsX,hjX,hj,hg,enc_length,enc_take,enc_drop,frzL_enc,enc_closed,Option.map_some]
          have hsn : encs ts ++ [enc (toTy (.nm [] xn))] = encs (ts ++ [toTy (.nm [] xn)]):=by rw [encs_map,encs_map]; simp
          refine ⟨fun v hv=>enc_leaf _ v hv,⟨fun r hr=>by rw [List.mem_singleton.1 hr,enc_length],by rw [encs_length]; omega⟩,?_⟩
          simp only [zW,zX,zD,builtinA,isLeaf,const1,ustrA,simprocAttr,ti3,ti9,ti34,ti36,ti48,ti50,ti69,ca101,ca115,ca188,ca189,ca190,ca246,ca256,cf,Tryz.results190,hk1,LoopK_eq]
          refine ⟨⟨k + 1,ts ++ [toTy (.nm [] xn)],B.length + 1,_,by omega,by simp,by simp; omega,fun t ht=>?_,rfl,rfl,by simp,?_,?_⟩,?_⟩
          · rcases List.mem_append.1 ht with ht | ht
            · exact htz t ht
            · rw [List.mem_singleton.1 ht]; simp only [toTy,sz,szs,List.length_nil]; simp only at hnk; omega
          · rw [Abs.getD_append_right (by simp),← hsn]; simp
          · have hj0 : j ≠ 0:=fun e=>by rw [e,hg0] at hg; cases hg
            rw [Abs.getD_append_left (by simp; omega),getD_set_ne' hj0]; exact hg0
          · simp only [intOf]; omega
      · have hk2 : k = s.length:=by simp at h2; omega
        have hgi : ∀ Y,(A ++ Y).getD i .dead = Rd bs p:=fun Y=>by first | exact hgA0 Y | exact hgA _ Y
        have hel:=encs_length ts
        have hB0 : 0 < B.length:=by omega
        simp only [zW,zX,zD,builtinA,isLeaf,const1,ustrA,simprocAttr,ti3,ti9,ti34,ti36,ti48,ti50,ti69,ca101,ca115,ca188,ca189,ca190,ca246,ca256,cf,Tryz.results190]
        refine callK_intro (by simp only [zW,zX,zD,builtinA,isLeaf,const1,ustrA,simprocAttr]; rfl) (spec_pick bs p 8 i _ (by simp; omega) (hgi _) (by omega) (by omega)) ?_ rfl
        rintro v A' ⟨j2,rfl,q0,q1,rfl⟩
        by_cases k0 : j2 = 0
        · simp only [zW,zX,zD,builtinA,isLeaf,const1,ustrA,simprocAttr,ti3,ti9,ti34,ti36,ti48,ti50,ti69,ca101,ca115,ca188,ca189,ca190,ca246,ca256,cf,Tryz.results190,hi,hiP,decide_eq_true k0]
          refine ⟨by simp,?_⟩
          refine callK_intro (by simp only [zW,zX,zD,builtinA,isLeaf,const1,ustrA,simprocAttr,hi]; rfl) (spec_of bs (p + 1) [[65],[66]] i _ (by simp; omega) (hgA _ _) (by omega) (by simp)) ?_ rfl
          rintro v A' ⟨m,rfl,hm,rfl⟩
          have hml : m.length = 1:=by simp at hm; rcases hm with rfl | rfl <;> rfl
          have hN:=fun A=>spec_l1Name m [116] A
          simp only [zW,zX,zD,builtinA,isLeaf,const1,ustrA,simprocAttr,ti3,ti9,ti34,ti36,ti48,ti50,ti69,ca101,ca115,ca188,ca189,ca190,ca246,ca256,cf,Tryz.results190,hi,hiP,hPl,hg0,hB0]
          refine callK_intro (by simp only [zW,zX,zD,builtinA,isLeaf,const1,ustrA,simprocAttr,enc_length,enc_take,enc_drop,frzL_enc,enc_closed,Option.map_some]; rfl) (hN _) ?_ rfl; rintro v A' ⟨rfl,rfl⟩
          simp only [zW,zX,zD,builtinA,isLeaf,const1,ustrA,simprocAttr,ti3,ti9,ti34,ti36,ti48,ti50,ti69,ca101,ca115,ca188,ca189,ca190,ca246,ca256,cf,Tryz.results190,hi,hiP,hPl,hg0,hB0,enc_length,enc_take,enc_drop,frzL_enc,enc_closed,Option.map_some]
          refine ⟨outer_set A _ i _ (rd_closed _ _ _),_,p + 1 + 1,rfl,?_,by omega,by omega,rfl⟩
          simp only [toTy,sz,szs,List.length_nil,List.length_cons,hml]; omega
        · simp only [zW,zX,zD,builtinA,isLeaf,const1,ustrA,simprocAttr,ti3,ti9,ti34,ti36,ti48,ti50,ti69,ca101,ca115,ca188,ca189,ca190,ca246,ca256,cf,Tryz.results190,hi,hiP,hPl,hg,hj,hg0,hB0,hel,decide_eq_false k0]
          refine callK_intro (by simp only [zW,zX,zD,builtinA,isLeaf,const1,ustrA,simprocAttr,hi]; rfl) (spec_pick bs (p + 1) ts.length i _ (by simp; omega) (hgA _ _) (by omega) (by omega)) ?_ rfl
          rintro v A' ⟨j3,rfl,q2,q3,rfl⟩
          obtain ⟨q,rfl⟩:=Int.eq_ofNat_of_zero_le q2
          have hq : q < ts.length:=by have:=q3 (by omega); omega
          have heq:=encs_getD hq
          have hzq:=htz _ (getD_mem hq)
          simp only [zW,zX,zD,builtinA,isLeaf,const1,ustrA,simprocAttr,ti3,ti9,ti34,ti36,ti48,ti50,ti69,ca101,ca115,ca188,ca189,ca190,ca246,ca256,cf,Tryz.results190,hi,hiP,hPl,hg,hj,hg0,hB0,hel,heq,enc_length,enc_take,enc_drop,frzL_enc,enc_closed,Option.map_some]
          exact ⟨⟨by omega,by omega⟩,outer_set A _ i _ (rd_closed _ _ _),_,p + 1 + 1,rfl,by omega,by omega,by omega,rfl⟩
theorem typC (bs : List UInt8) (s : List SigI) (hs : s.length ≤ 20) (hnm : ∀ x ∈ s,x.name.length ≤ 2) : ∀ n,TypC bs s n
  | 0=>spec_l2Type_step bs s hs hnm 0 fun m h=>by omega
  | n + 1=>spec_l2Type_step bs s hs hnm (n + 1) fun m h=>by
    have : n = m:=by omega
    rw [← this]; exact typC bs s hs hnm n
def SmI (x : SigI) : Prop:=x.name.length ≤ 2 ∧ sz x.typ ≤ 30
theorem SmI.ok {x : SigI} (h : SmI x) : x.Ok ∧ sz x.typ ≤ 1048576:=⟨⟨by have:=h.1; omega,okSz _ (by have:=h.2; omega)⟩,by have:=h.2; omega⟩
def tyN : List (List UInt8):=[[116],[117],[118]]
def vaN : List (List UInt8):=[[120],[121],[102],[116]]
set_option maxRecDepth 100000 in
set_option maxHeartbeats 4000000 in
theorem spec_l2Draw (bs : List UInt8) (p : Nat) (i : Nat) (A : List Box) (hi : i < A.length) (hA : A.getD i .dead = Rd bs p) (hp : p < 2 ^ 37) :
    ACalls Tryz.prog 100 [.ptr i 0] A (fun r A'=>∃ s p',r = .slice (sEs s) ∧ s.length ≤ 5 ∧ (∀ x ∈ s,SmI x) ∧ p ≤ p' ∧ p' ≤ p + 200 ∧ A' = A.set i (Rd bs p')):=by
  have hgA : ∀ X (B : List Box),(A.set i X ++ B).getD i .dead = X:=fun X B=>by rw [getD_app1 _ _ _ _ (by simpa using hi),getD_set1 hi]
  have hgA0 : ∀ (B : List Box),(A ++ B).getD i .dead = Rd bs p:=fun B=>by rw [getD_app1 _ _ _ _ hi]; exact hA
  refine acalls_enter (cf:=cf 59 [0,2,3,4,5,6,7,15,24,43,53]) foll Tryz.func100 Tryz.ntmps100 (by simp [cf]) ?_
  simp only [Tryz.f100,EnterK_some,zW,zX,zD,builtinA,isLeaf,const1,ustrA,simprocAttr,ti3,ti9,ti36,ti48,ti50,ti69,ti273,ca115,ca178,ca186,ca190,cf,Tryz.results100]
  refine ⟨by simp,by simp,by simp,?_⟩
  refine callK_intro (by simp only [zW,zX,zD,builtinA,isLeaf,const1,ustrA,simprocAttr,hi]; rfl) (spec_num bs p [3,4,2,5,0] i _ (by simp; omega) (hgA0 _) (by omega) (by simp)) ?_ rfl
  rintro v A' ⟨c,rfl,hc,rfl⟩
  have hc5 : 0 ≤ c ∧ c ≤ 5:=by simp at hc; omega
  simp only [zW,zX,zD,builtinA,isLeaf,const1,ustrA,simprocAttr,ti3,ti9,ti36,ti48,ti50,ti69,ti273,ca115,ca178,ca186,ca190,cf,Tryz.results100,hi]
  refine aloop_intro [0,3,4,5,6] (fun e A'=>∃ (n : Nat) (s : List SigI) (p' j : Nat) (B : List Box) (sf : Nat),n ≤ 5 ∧ s.length + n ≤ 5 ∧ (∀ x ∈ s,SmI x) ∧ p ≤ p' ∧ p' + 30 * n ≤ p + 160 ∧ e = [(0,.ptr i 0),(3,.own (A.length + j)),(4,.own (A.length + 1)),(5,.own (A.length + 2)),(6,.int .i64 (n : Nat))] ∧ A' = A.set i (Rd bs p') ++ B ∧ j < B.length ∧ 2 < B.length ∧ B.getD j .dead = .row 6 (sEs s) sf ∧ sf ≤ s.length ∧ B.getD 1 .dead = .row 1 (tyN.map fun x=>[.str x]) 0 ∧ B.getD 2 .dead = .row 1 (vaN.map fun x=>[.str x]) 0) (fun e _=>(intOf (Abs.look 6 e)).toNat) ?_ ?_
  · obtain ⟨n,rfl⟩:=Int.eq_ofNat_of_zero_le hc5.1
    simp only [zW,zX,zD,builtinA,isLeaf,const1,ustrA,simprocAttr,ti3,ti9,ti36,ti48,ti50,ti69,ti273,ca115,ca178,ca186,ca190,cf,Tryz.results100]
    refine ⟨n,[],p + 1,0,_,0,by omega,?_,fun x hx=>absurd hx (by simp),by omega,by omega,rfl,rfl,?_⟩
    · simp; omega
    · exact ⟨by simp,by simp,rfl,by simp,rfl,rfl⟩
  · rintro e A' ⟨n,s,p',j,B,sf,hn,hsl,hsm,hp1,hp2,rfl,rfl,hj,hB2,hg,hsf,hg1,hg2⟩
    by_cases hn0 : 0 < n
    · have d1 : decide ((n : Int) > 0) = true:=by simp; omega
      have d1' : decide ((0 : Int) < (n : Int)) = true:=by simp; omega
      simp only [zW,zX,zD,builtinA,isLeaf,const1,ustrA,simprocAttr,ti3,ti9,ti36,ti48,ti50,ti69,ti273,ca115,ca178,ca186,ca190,cf,Tryz.results100,hi,d1,d1']
      have hgX : ∀ Y,(B ++ Y).getD j .dead = .row 6 (sEs s) sf:=fun Y=>by rw [Abs.getD_append_left hj]; exact hg
      have hg1X : ∀ Y,(B ++ Y).getD 1 .dead = .row 1 (tyN.map fun x=>[.str x]) 0:=fun Y=>by rw [Abs.getD_append_left (by omega)]; exact hg1
      have hg2X : ∀ Y,(B ++ Y).getD 2 .dead = .row 1 (vaN.map fun x=>[.str x]) 0:=fun Y=>by rw [Abs.getD_append_left (by omega)]; exact hg2
      have hsX : ∀ (Y : List Box) Z,(B ++ Y).set j Z = B.set j Z ++ Y:=fun Y Z=>by rw [List.set_append_left _ _ hj]
      have hjX : ∀ n,j < B.length + n:=fun n=>by omega
      have h1X : ∀ n,1 < B.length + n:=fun n=>by omega
      have h2X : ∀ n,2 < B.length + n:=fun n=>by omega
      have hlt : (tyN.map fun x=>[AV.str x]).length = 3:=rfl
      have hlv : (vaN.map fun x=>[AV.str x]).length = 4:=rfl
      have hn1 : IntKind.i64.wrap ((n : Int) - 1) = ((n - 1 : Nat) : Int):=by rw [wrap64 (by omega) (by omega)]; omega
      have hgY : ∀ (Z : Box) Y,(B.set j Z ++ Y).getD j .dead = Z:=fun Z Y=>by rw [Abs.getD_append_left (by simpa using hj),getD_set_self hj]
      have hsY : ∀ (Z W : Box) (Y : List Box),(B.set j Z ++ Y).set j W = B.set j W ++ Y:=fun Z W Y=>by rw [List.set_append_left _ _ (by simpa using hj),List.set_set]
      have hj1 : j ≠ 1:=fun e=>by rw [e,hg1] at hg; cases hg
      have hj2 : j ≠ 2:=fun e=>by rw [e,hg2] at hg; cases hg
      have hY1 : ∀ (Z : Box) Y,(B.set j Z ++ Y).getD 1 .dead = .row 1 (tyN.map fun x=>[.str x]) 0:=fun Z Y=>by rw [Abs.getD_append_left (by simp; omega),getD_set_ne' hj1]; exact hg1
      have hY2 : ∀ (Z : Box) Y,(B.set j Z ++ Y).getD 2 .dead = .row 1 (vaN.map fun x=>[.str x]) 0:=fun Z Y=>by rw [Abs.getD_append_left (by simp; omega),getD_set_ne' hj2]; exact hg2
      have hsl2:=sEs_length s
      refine ⟨by simp,?_⟩
      refine callK_intro (by simp only [zW,zX,zD,builtinA,isLeaf,const1,ustrA,simprocAttr,hi]; rfl) (spec_num bs p' [3,1,2,3] i _ (by simp; omega) (hgA _ _) (by omega) (by simp)) ?_ rfl
      rintro v A' ⟨k,rfl,hk,rfl⟩
      have hk3 : k = 3 ∨ k = 1 ∨ k = 2:=by simp at hk; omega
      by_cases k3 : k = 3
      · simp only [zW,zX,zD,builtinA,isLeaf,const1,ustrA,simprocAttr,ti3,ti9,ti36,ti48,ti50,ti69,ti273,ca115,ca178,ca186,ca190,cf,Tryz.results100,hi,decide_eq_true k3,hgX,hg1X,hg2X,hjX,h1X,h2X,hlt,hlv]
        refine callK_intro (by simp only [zW,zX,zD,builtinA,isLeaf,const1,ustrA,simprocAttr,hi]; rfl) (spec_pick bs (p' + 1) 4 i _ (by simp; omega) (hgA _ _) (by omega) (by omega)) ?_ rfl
        rintro v A' ⟨j3,rfl,w0,w1,rfl⟩
        obtain ⟨q,rfl⟩:=Int.eq_ofNat_of_zero_le w0
        have hq4 : q < 4:=by have:=w1 (by omega); omega
        have hgv : (vaN.map fun x=>[AV.str x]).getD q [] = [.str (vaN.getD q [])]:=by simp [List.getD,show q < vaN.length from hq4]
        have hnl : (vaN.getD q []).length = 1:=by
          have : ∀ m ∈ vaN,m.length = 1:=by decide
          exact this _ (Abs.getD_mem (show q < vaN.length from hq4))
        generalize vaN.getD q [] = nm at *
        simp only [zW,zX,zD,builtinA,isLeaf,const1,ustrA,simprocAttr,ti3,ti9,ti36,ti48,ti50,ti69,ti273,ca115,ca178,ca186,ca190,cf,Tryz.results100,hi,hgX,hg1X,hg2X,hjX,h1X,h2X,hlt,hlv,hgv,k3]
        refine ⟨⟨by omega,by omega⟩,?_⟩
        refine ⟨by simp,?_⟩
        refine callK_intro (by simp only [zW,zX,zD,builtinA,isLeaf,const1,ustrA,simprocAttr,hi]; rfl) (spec_num bs (p' + 1 + 1) [2,1,3] i _ (by simp; omega) (hgA _ _) (by omega) (by simp)) ?_ rfl
        rintro v A' ⟨d,rfl,hd,rfl⟩
        have hd3 : 1 ≤ d ∧ d ≤ 3:=by simp at hd; omega
        simp only [zW,zX,zD,builtinA,isLeaf,const1,ustrA,simprocAttr,ti3,ti9,ti36,ti48,ti50,ti69,ti273,ca115,ca178,ca186,ca190,cf,Tryz.results100,hi,hgX,hsX,hjX]
        refine callK_intro (by simp only [zW,zX,zD,builtinA,isLeaf,const1,ustrA,simprocAttr,hi,hgX,hsX,hjX]; rfl) (typC bs s (by omega) (fun x hx=>(hsm x hx).1) 2 d (p' + 1 + 1 + 1) i _ (by simp; omega) (hgA _ _) (by omega) (by omega) (by omega)) ?_ rfl
        rintro v A' ⟨τ,p2,rfl,hz,hq1,hq2,rfl⟩
        have hx : SmI ⟨3,nm,τ⟩:=⟨by simp only; omega,by simp only; omega⟩
        have hit:=fun A=>spec_l2Item s (by omega) ⟨3,nm,τ⟩ hx.ok.1 hx.ok.2 A
        have hlf:=sE_leaf ⟨3,nm,τ⟩
        simp only [sE] at hit hlf
        simp only [zW,zX,zD,builtinA,isLeaf,const1,ustrA,simprocAttr,ti3,ti9,ti36,ti48,ti50,ti69,ti273,ca115,ca178,ca186,ca190,cf,Tryz.results100,hi,hgX,hsX,hjX,enc_length,enc_take,enc_drop,frzL_enc,enc_closed,Option.map_some]
        refine callK_intro (by simp only [zW,zX,zD,builtinA,isLeaf,const1,ustrA,simprocAttr,hi,hgY,hsY,hjX,enc_length,enc_take,enc_drop,frzL_enc,enc_closed,Option.map_some]; rfl) (hit _) ?_ rfl
        rintro v A' ⟨rfl,rfl⟩
        cases hb : itemB s ⟨3,nm,τ⟩ with
        | false =>
          simp only [zW,zX,zD,builtinA,isLeaf,const1,ustrA,simprocAttr,ti3,ti9,ti36,ti48,ti50,ti69,ti273,ca115,ca178,ca186,ca190,cf,Tryz.results100,hi,hn1,LoopK_eq]
          refine ⟨⟨n - 1,s,p2,j,_,s.length,by omega,by omega,hsm,by omega,by omega,rfl,rfl,by simp <;> omega,by simp <;> omega,by rw [hgY,hsl2],by omega,hY1 _ _,hY2 _ _⟩,?_⟩
          simp only [intOf]; omega
        | true =>
          have hrs : sEs s ++ [.int .i64 3 :: .str nm :: enc τ] = sEs (s ++ [⟨3,nm,τ⟩]):=by simp [sEs,sE,enc,encs]
          have hsm' : ∀ x ∈ s ++ [⟨3,nm,τ⟩],SmI x:=fun x hx'=>by
            rcases List.mem_append.1 hx' with h | h
            · exact hsm x h
            · rw [List.mem_singleton.1 h]; exact hx
          simp only [zW,zX,zD,builtinA,isLeaf,const1,ustrA,simprocAttr,ti3,ti9,ti36,ti48,ti50,ti69,ti273,ca115,ca178,ca186,ca190,cf,Tryz.results100,hi,hgX,hsX,hjX,hgY,hsY,enc_length,enc_take,enc_drop,frzL_enc,enc_closed,Option.map_some]
          refine ⟨fun w hw=>hlf w hw,⟨fun r hr=>by rw [List.mem_singleton.1 hr]; simp [enc_length],by omega⟩,?_⟩
          simp only [zW,zX,zD,builtinA,isLeaf,const1,ustrA,simprocAttr,ti3,ti9,ti36,ti48,ti50,ti69,ti273,ca115,ca178,ca186,ca190,cf,Tryz.results100,hi,hn1,LoopK_eq]
          refine ⟨⟨n - 1,_,p2,B.length + 4,_,(sEs s).length,by omega,?_,hsm',by omega,by omega,rfl,rfl,by simp,by simp <;> omega,?_,?_,hY1 _ _,hY2 _ _⟩,?_⟩
          · simp; omega
          · rw [Abs.getD_append_right (by simp),← hrs]; simp
          · simp; omega
          · simp only [intOf]; omega
      · simp only [zW,zX,zD,builtinA,isLeaf,const1,ustrA,simprocAttr,ti3,ti9,ti36,ti48,ti50,ti69,ti273,ca115,ca178,ca186,ca190,cf,Tryz.results100,hi,decide_eq_false k3,hgX,hg1X,hg2X,hjX,h1X,h2X,hlt,hlv]
        refine callK_intro (by simp only [zW,zX,zD,builtinA,isLeaf,const1,ustrA,simprocAttr,hi]; rfl) (spec_pick bs (p' + 1) 3 i _ (by simp; omega) (hgA _ _) (by omega) (by omega)) ?_ rfl
        rintro v A' ⟨j3,rfl,w0,w1,rfl⟩
        obtain ⟨q,rfl⟩:=Int.eq_ofNat_of_zero_le w0
        have hq4 : q < 3:=by have:=w1 (by omega); omega
        have hgv : (tyN.map fun x=>[AV.str x]).getD q [] = [.str (tyN.getD q [])]:=by simp [List.getD,show q < tyN.length from hq4]
        have hnl : (tyN.getD q []).length = 1:=by
          have : ∀ m ∈ tyN,m.length = 1:=by decide
          exact this _ (Abs.getD_mem (show q < tyN.length from hq4))
        generalize tyN.getD q [] = nm at *
        simp only [zW,zX,zD,builtinA,isLeaf,const1,ustrA,simprocAttr,ti3,ti9,ti36,ti48,ti50,ti69,ti273,ca115,ca178,ca186,ca190,cf,Tryz.results100,hi,hgX,hg1X,hg2X,hjX,h1X,h2X,hlt,hlv,hgv]
        refine ⟨⟨by omega,by omega⟩,?_⟩
        by_cases k1 : k = 1
        · have hx : SmI ⟨k,nm,ty0⟩:=⟨by simp only; omega,by simp [ty0,sz,szs]⟩
          have hit:=fun A=>spec_l2Item s (by omega) ⟨k,nm,ty0⟩ hx.ok.1 hx.ok.2 A
          simp only [sE,ty0,enc,encs] at hit
          simp only [zW,zX,zD,builtinA,isLeaf,const1,ustrA,simprocAttr,ti3,ti9,ti36,ti48,ti50,ti69,ti273,ca115,ca178,ca186,ca190,cf,Tryz.results100,hi,decide_eq_true k1,hgX,hsX,hjX]
          refine callK_intro (by simp only [zW,zX,zD,builtinA,isLeaf,const1,ustrA,simprocAttr,hi,hgX,hsX,hjX]; rfl) (hit _) ?_ rfl
          rintro v A' ⟨rfl,rfl⟩
          have hlf:=sE_leaf ⟨k,nm,ty0⟩
          simp only [sE,ty0,enc,encs] at hlf
          cases hb : itemB s ⟨k,nm,Ty.mk 0 [] [] []⟩ with
          | false =>
            simp only [zW,zX,zD,builtinA,isLeaf,const1,ustrA,simprocAttr,ti3,ti9,ti36,ti48,ti50,ti69,ti273,ca115,ca178,ca186,ca190,cf,Tryz.results100,hi,hn1,LoopK_eq]
            refine ⟨⟨n - 1,s,p' + 1 + 1,j,_,s.length,by omega,by omega,hsm,by omega,by omega,rfl,rfl,by simp <;> omega,by simp <;> omega,by rw [hgY,hsl2],by omega,hY1 _ _,hY2 _ _⟩,?_⟩
            simp only [intOf]; omega
          | true =>
            have hrs : sEs s ++ [[.int .i64 k,.str nm,.int .i64 0,.str [],.str [],.slice []]] = sEs (s ++ [⟨k,nm,ty0⟩]):=by simp [sEs,sE,ty0,enc,encs]
            have hsm' : ∀ x ∈ s ++ [⟨k,nm,ty0⟩],SmI x:=fun x hx'=>by
              rcases List.mem_append.1 hx' with h | h
              · exact hsm x h
              · rw [List.mem_singleton.1 h]; exact hx
            simp only [zW,zX,zD,builtinA,isLeaf,const1,ustrA,simprocAttr,ti3,ti9,ti36,ti48,ti50,ti69,ti273,ca115,ca178,ca186,ca190,cf,Tryz.results100,hi,hgX,hsX,hjX,hgY,hsY,enc_length,enc_take,enc_drop,frzL_enc,enc_closed,Option.map_some]
            refine ⟨fun w hw=>hlf w hw,⟨fun r hr=>by rw [List.mem_singleton.1 hr]; simp [enc_length],by omega⟩,?_⟩
            simp only [zW,zX,zD,builtinA,isLeaf,const1,ustrA,simprocAttr,ti3,ti9,ti36,ti48,ti50,ti69,ti273,ca115,ca178,ca186,ca190,cf,Tryz.results100,hi,hn1,LoopK_eq]
            refine ⟨⟨n - 1,_,p' + 1 + 1,B.length + 3,_,(sEs s).length,by omega,?_,hsm',by omega,by omega,rfl,rfl,by simp,by simp <;> omega,?_,?_,hY1 _ _,hY2 _ _⟩,?_⟩
            · simp; omega
            · rw [Abs.getD_append_right (by simp),← hrs]; simp
            · simp; omega
            · simp only [intOf]; omega
        · simp only [zW,zX,zD,builtinA,isLeaf,const1,ustrA,simprocAttr,ti3,ti9,ti36,ti48,ti50,ti69,ti273,ca115,ca178,ca186,ca190,cf,Tryz.results100,hi,decide_eq_false k1,hgX,hsX,hjX]
          refine ⟨by simp,?_⟩
          refine callK_intro (by simp only [zW,zX,zD,builtinA,isLeaf,const1,ustrA,simprocAttr,hi]; rfl) (spec_num bs (p' + 1 + 1) [2,1,3] i _ (by simp; omega) (hgA _ _) (by omega) (by simp)) ?_ rfl
          rintro v A' ⟨d,rfl,hd,rfl⟩
          have hd3 : 1 ≤ d ∧ d ≤ 3:=by simp at hd; omega
          simp only [zW,zX,zD,builtinA,isLeaf,const1,ustrA,simprocAttr,ti3,ti9,ti36,ti48,ti50,ti69,ti273,ca115,ca178,ca186,ca190,cf,Tryz.results100,hi,hgX,hsX,hjX]
          refine callK_intro (by simp only [zW,zX,zD,builtinA,isLeaf,const1,ustrA,simprocAttr,hi,hgX,hsX,hjX]; rfl) (typC bs s (by omega) (fun x hx=>(hsm x hx).1) 2 d (p' + 1 + 1 + 1) i _ (by simp; omega) (hgA _ _) (by omega) (by omega) (by omega)) ?_ rfl
          rintro v A' ⟨τ,p2,rfl,hz,hq1,hq2,rfl⟩
          have hx : SmI ⟨k,nm,τ⟩:=⟨by simp only; omega,by simp only; omega⟩
          have hit:=fun A=>spec_l2Item s (by omega) ⟨k,nm,τ⟩ hx.ok.1 hx.ok.2 A
          have hlf:=sE_leaf ⟨k,nm,τ⟩
          simp only [sE] at hit hlf
          simp only [zW,zX,zD,builtinA,isLeaf,const1,ustrA,simprocAttr,ti3,ti9,ti36,ti48,ti50,ti69,ti273,ca115,ca178,ca186,ca190,cf,Tryz.results100,hi,hgX,hsX,hjX,enc_length,enc_take,enc_drop,frzL_enc,enc_closed,Option.map_some]
          refine callK_intro (by simp only [zW,zX,zD,builtinA,isLeaf,const1,ustrA,simprocAttr,hi,hgY,hsY,hjX,enc_length,enc_take,enc_drop,frzL_enc,enc_closed,Option.map_some]; rfl) (hit _) ?_ rfl
          rintro v A' ⟨rfl,rfl⟩
          cases hb : itemB s ⟨k,nm,τ⟩ with
          | false =>
            simp only [zW,zX,zD,builtinA,isLeaf,const1,ustrA,simprocAttr,ti3,ti9,ti36,ti48,ti50,ti69,ti273,ca115,ca178,ca186,ca190,cf,Tryz.results100,hi,hn1,LoopK_eq]
            refine ⟨⟨n - 1,s,p2,j,_,s.length,by omega,by omega,hsm,by omega,by omega,rfl,rfl,by simp <;> omega,by simp <;> omega,by rw [hgY,hsl2],by omega,hY1 _ _,hY2 _ _⟩,?_⟩
            simp only [intOf]; omega
          | true =>
            have hrs : sEs s ++ [.int .i64 k :: .str nm :: enc τ] = sEs (s ++ [⟨k,nm,τ⟩]):=by simp [sEs,sE,enc,encs]
            have hsm' : ∀ x ∈ s ++ [⟨k,nm,τ⟩],SmI x:=fun x hx'=>by
              rcases List.mem_append.1 hx' with h | h
              · exact hsm x h
              · rw [List.mem_singleton.1 h]; exact hx
            simp only [zW,zX,zD,builtinA,isLeaf,const1,ustrA,simprocAttr,ti3,ti9,ti36,ti48,ti50,ti69,ti273,ca115,ca178,ca186,ca190,cf,Tryz.results100,hi,hgX,hsX,hjX,hgY,hsY,enc_length,enc_take,enc_drop,frzL_enc,enc_closed,Option.map_some]
            refine ⟨fun w hw=>hlf w hw,⟨fun r hr=>by rw [List.mem_singleton.1 hr]; simp [enc_length],by omega⟩,?_⟩
            simp only [zW,zX,zD,builtinA,isLeaf,const1,ustrA,simprocAttr,ti3,ti9,ti36,ti48,ti50,ti69,ti273,ca115,ca178,ca186,ca190,cf,Tryz.results100,hi,hn1,LoopK_eq]
            refine ⟨⟨n - 1,_,p2,B.length + 4,_,(sEs s).length,by omega,?_,hsm',by omega,by omega,rfl,rfl,by simp,by simp <;> omega,?_,?_,hY1 _ _,hY2 _ _⟩,?_⟩
            · simp; omega
            · rw [Abs.getD_append_right (by simp),← hrs]; simp
            · simp; omega
            · simp only [intOf]; omega
    · have d1 : decide ((n : Int) > 0) = false:=by simp; omega
      have d1' : decide ((0 : Int) < (n : Int)) = false:=by simp; omega
      simp only [zW,zX,zD,builtinA,isLeaf,const1,ustrA,simprocAttr,ti3,ti9,ti36,ti48,ti50,ti69,ti273,ca115,ca178,ca186,ca190,cf,Tryz.results100,hi,d1,d1',hg,hj]
      exact ⟨outer_set A _ i _ (rd_closed _ _ _),s,p',rfl,by omega,hsm,hp1,by omega,rfl⟩
end Go.Proofs.YtnjdbgiincliaaaGreat
namespace Go.Proofs.YtnjdbgiincliaaaGreat
open Go.Abs
def SmX (x : SigI) : Prop:=x.name.length ≤ 2 ∧ sz x.typ ≤ 200
theorem SmI.big {x : SigI} (h : SmI x) : SmX x:=⟨h.1,by have h2 : sz x.typ ≤ 30:=h.2; omega⟩
theorem SmX.ok {x : SigI} (h : SmX x) : x.Ok ∧ sz x.typ ≤ 1048576:=⟨⟨by have:=h.1; omega,okSz _ (by have:=h.2; omega)⟩,by have:=h.2; omega⟩
theorem set_back {A : List Box} {i : Nat} {X : Box} (hi : i < A.length) (h : A.getD i .dead = X) : A.set i X = A:=by
  apply List.ext_getElem (by simp)
  intro k h1 h2
  rw [List.getElem_set]
  split
  · next e=>subst e; rw [← h,List.getD_eq_getElem?_getD,List.getElem?_eq_getElem hi]; rfl
  · rfl
theorem sEs_getE {s : List SigI} {k : Nat} (h : k < s.length) : (sEs s).getD k [] = sE s[k]:=by
  simp [sEs,List.getD,h]
theorem smx_set {s : List SigI} (hsm : ∀ x ∈ s,SmX x) (k : Nat) (x : SigI) (hx : SmX x) : ∀ y ∈ s.set k x,SmX y:=fun y hy=>by
  rcases List.mem_or_eq_of_mem_set hy with h | rfl
  · exact hsm y h
  · exact hx
def rowsN (A : List Box) (v : AV) : Nat:=match v with
  | .own a=>match A.getD a .dead with
    | .row _ r _=>r.length
    | _=>0
  | _=>0
theorem rowsN_own {A : List Box} {a sz : Nat} {r : List (List AV)} {sf : Nat} (h : A.getD a .dead = .row sz r sf) : rowsN A (.own a) = r.length:=by rw [rowsN,h]
set_option maxRecDepth 100000 in
set_option maxHeartbeats 4000000 in
theorem spec_l2Mutate (bs : List UInt8) (p : Nat) (s : List SigI) (hs : s.length ≤ 9) (hsm : ∀ x ∈ s,SmX x) (i : Nat) (A : List Box) (hi : i < A.length) (hA : A.getD i .dead = Rd bs p) (hp : p < 2 ^ 37) :
    ACalls Tryz.prog 99 [.ptr i 0,.slice (sEs s)] A (fun r A'=>∃ s' p',r = .slice (sEs s') ∧ s'.length ≤ 9 ∧ (∀ x ∈ s',SmX x) ∧ p ≤ p' ∧ p' ≤ p + 10 ∧ A' = A.set i (Rd bs p')):=by
  have hgA : ∀ X (B : List Box),(A.set i X ++ B).getD i .dead = X:=fun X B=>by rw [getD_app1 _ _ _ _ (by simpa using hi),getD_set1 hi]
  have hgA0 : ∀ (B : List Box),(A ++ B).getD i .dead = Rd bs p:=fun B=>by rw [getD_app1 _ _ _ _ hi]; exact hA
  refine acalls_enter (cf:=cf 73 [0,1,4,5,6,11,18,19,28,37,46,56,60]) foll Tryz.func99 Tryz.ntmps99 (by simp [cf]) ?_
  simp only [Tryz.f99,EnterK_some,zW,zX,zD,builtinA,isLeaf,const1,ustrA,simprocAttr,ti3,ti5,ti9,ti36,ti48,ti50,ti57,ti69,ti273,ca101,ca115,ca118,ca186,ca187,ca188,ca189,cf,Tryz.results99]
  refine callK_intro (by simp only [zW,zX,zD,builtinA,isLeaf,const1,ustrA,simprocAttr,hi]; rfl) (spec_l2Copy s (by omega) (fun x hx=>(hsm x hx).ok.2) _) ?_ rfl
  rintro v A' ⟨B,j,rfl,rfl,hj,hg⟩
  have hgX : ∀ Y,(B ++ Y).getD j .dead = .row 6 (sEs s) 0:=fun Y=>by rw [Abs.getD_append_left hj]; exact hg
  have hsX : ∀ (Y : List Box) Z,(B ++ Y).set j Z = B.set j Z ++ Y:=fun Y Z=>by rw [List.set_append_left _ _ hj]
  have hjX : ∀ n,j < B.length + n:=fun n=>by omega
  have hgY : ∀ (Z : Box) Y,(B.set j Z ++ Y).getD j .dead = Z:=fun Z Y=>by rw [Abs.getD_append_left (by simpa using hj),getD_set_self hj]
  have hgS : ∀ (Z : Box),(B.set j Z).getD j .dead = Z:=fun Z=>getD_set_self hj
  have hlen:=sEs_length s
  by_cases h0 : s.length = 0
  · have d0 : decide ((s.length : Int) = 0) = true:=decide_eq_true (by omega)
    simp only [zW,zX,zD,builtinA,isLeaf,const1,ustrA,simprocAttr,ti3,ti5,ti9,ti36,ti48,ti50,ti57,ti69,ti273,ca101,ca115,ca118,ca186,ca187,ca188,ca189,cf,Tryz.results99,hi,hg,hj,hlen,d0]
    exact ⟨s,p,rfl,by omega,fun x hx=>hsm x hx,by omega,by omega,(set_back hi hA).symm⟩
  · have d0 : decide ((s.length : Int) = 0) = false:=decide_eq_false (by omega)
    simp only [zW,zX,zD,builtinA,isLeaf,const1,ustrA,simprocAttr,ti3,ti5,ti9,ti36,ti48,ti50,ti57,ti69,ti273,ca101,ca115,ca118,ca186,ca187,ca188,ca189,cf,Tryz.results99,hi,hg,hj,hlen,d0]
    refine callK_intro (by simp only [zW,zX,zD,builtinA,isLeaf,const1,ustrA,simprocAttr,hi]; rfl) (spec_pick bs p s.length i _ (by simp; omega) (hgA0 _) (by omega) (by omega)) ?_ rfl
    rintro v A' ⟨k0,rfl,w0,w1,rfl⟩
    obtain ⟨k,rfl⟩:=Int.eq_ofNat_of_zero_le w0
    have hk : k < s.length:=by have:=w1 (by omega); omega
    simp only [zW,zX,zD,builtinA,isLeaf,const1,ustrA,simprocAttr,ti3,ti5,ti9,ti36,ti48,ti50,ti57,ti69,ti273,ca101,ca115,ca118,ca186,ca187,ca188,ca189,cf,Tryz.results99,hi,hg,hj,hlen]
    refine callK_intro (by simp only [zW,zX,zD,builtinA,isLeaf,const1,ustrA,simprocAttr,hi]; rfl) (spec_pick bs (p + 1) 40 i _ (by simp; omega) (hgA _ _) (by omega) (by omega)) ?_ rfl
    rintro v A' ⟨j1,rfl,h1,h2,rfl⟩
    have hxk:=hsm _ (List.getElem_mem hk)
    by_cases k0 : j1 = 0
    · simp only [zW,zX,zD,builtinA,isLeaf,const1,ustrA,simprocAttr,ti3,ti5,ti9,ti36,ti48,ti50,ti57,ti69,ti273,ca101,ca115,ca118,ca186,ca187,ca188,ca189,cf,Tryz.results99,hi,hg,hj,hlen,decide_eq_true k0]
      refine ⟨by simp,?_⟩
      refine callK_intro (by simp only [zW,zX,zD,builtinA,isLeaf,const1,ustrA,simprocAttr,hi]; rfl) (spec_num bs (p + 1 + 1) [0,4,1,2,3] i _ (by simp; omega) (hgA _ _) (by omega) (by simp)) ?_ rfl
      rintro v A' ⟨v,rfl,hv,rfl⟩
      simp only [zW,zX,zD,builtinA,isLeaf,const1,ustrA,simprocAttr,ti3,ti5,ti9,ti36,ti48,ti50,ti57,ti69,ti273,ca101,ca115,ca118,ca186,ca187,ca188,ca189,cf,Tryz.results99,hi,hg,hj,hlen,hgX,hsX,hjX,hgY,hgS]
      refine ⟨⟨by omega,by omega⟩,⟨by omega,hk,by simp⟩,outer_set A _ i _ (rd_closed _ _ _),s.set k ⟨v,s[k].name,s[k].typ⟩,_,?_,by simp; omega,smx_set hsm k _ ⟨hxk.1,hxk.2⟩,?_,?_,rfl⟩
      · rw [sEs_getE hk,← sEs_set]; rfl
      · omega
      · omega
    · by_cases k1 : j1 = 1
      · simp only [zW,zX,zD,builtinA,isLeaf,const1,ustrA,simprocAttr,ti3,ti5,ti9,ti36,ti48,ti50,ti57,ti69,ti273,ca101,ca115,ca118,ca186,ca187,ca188,ca189,cf,Tryz.results99,hi,hg,hj,hlen,decide_eq_false k0,decide_eq_true k1]
        refine ⟨by simp,?_⟩
        refine callK_intro (by simp only [zW,zX,zD,builtinA,isLeaf,const1,ustrA,simprocAttr,hi]; rfl) (spec_of bs (p + 1 + 1) [[116],[120],[65],[]] i _ (by simp; omega) (hgA _ _) (by omega) (by simp)) ?_ rfl
        rintro v A' ⟨v,rfl,hv,rfl⟩
        simp only [zW,zX,zD,builtinA,isLeaf,const1,ustrA,simprocAttr,ti3,ti5,ti9,ti36,ti48,ti50,ti57,ti69,ti273,ca101,ca115,ca118,ca186,ca187,ca188,ca189,cf,Tryz.results99,hi,hg,hj,hlen,hgX,hsX,hjX,hgY,hgS]
        have hvl : v.length ≤ 2:=by simp at hv; rcases hv with rfl | rfl | rfl | rfl <;> simp
        refine ⟨⟨by omega,by omega⟩,⟨by omega,hk,by simp⟩,outer_set A _ i _ (rd_closed _ _ _),s.set k ⟨s[k].kind,v,s[k].typ⟩,_,?_,by simp; omega,smx_set hsm k _ ⟨hvl,hxk.2⟩,?_,?_,rfl⟩
        · rw [sEs_getE hk,← sEs_set]; rfl
        · omega
        · omega
      · by_cases k2 : j1 = 2
        · simp only [zW,zX,zD,builtinA,isLeaf,const1,ustrA,simprocAttr,ti3,ti5,ti9,ti36,ti48,ti50,ti57,ti69,ti273,ca101,ca115,ca118,ca186,ca187,ca188,ca189,cf,Tryz.results99,hi,hg,hj,hlen,decide_eq_false k0,decide_eq_false k1,decide_eq_true k2]
          refine callO_intro (spec_l1Name [] [119] _) ?_
          simp only [zW,zX,zD,builtinA,isLeaf,const1,ustrA,simprocAttr,ti3,ti5,ti9,ti36,ti48,ti50,ti57,ti69,ti273,ca101,ca115,ca118,ca186,ca187,ca188,ca189,cf,Tryz.results99,hi,hg,hj,hlen,hgX,hsX,hjX,hgY,hgS,enc_length,enc_take,enc_drop,frzL_enc,enc_closed,Option.map_some]
          rintro v A' ⟨rfl,rfl⟩
          refine callK_intro (by simp only [zW,zX,zD,builtinA,isLeaf,const1,ustrA,simprocAttr,hi,enc_length,enc_take,enc_drop,frzL_enc,enc_closed,Option.map_some]; rfl) (spec_l1Mutate bs (toTy (.nm [] [119])) (by simp [toTy,sz,szs]) (p + 1 + 1) i _ (by simp; omega) (hgA _ _) (by omega)) ?_ rfl
          rintro v A' ⟨τ,p2,rfl,hz,hp1,hp2,rfl⟩
          simp only [zW,zX,zD,builtinA,isLeaf,const1,ustrA,simprocAttr,ti3,ti5,ti9,ti36,ti48,ti50,ti57,ti69,ti273,ca101,ca115,ca118,ca186,ca187,ca188,ca189,cf,Tryz.results99,hi,hg,hj,hlen,hgX,hsX,hjX,hgY,hgS,enc_length,enc_take,enc_drop,frzL_enc,enc_closed,Option.map_some]
          have hd6 : List.drop 6 (sE s[k]) = []:=List.drop_eq_nil_of_le (by rw [sE_length]; exact Nat.le_refl _)
          refine ⟨⟨by omega,by omega⟩,⟨by omega,hk,fun v hv=>enc_leaf _ v hv⟩,outer_set A _ i _ (rd_closed _ _ _),s.set k ⟨s[k].kind,s[k].name,τ⟩,_,?_,by simp; omega,smx_set hsm k _ ⟨hxk.1,?_⟩,?_,?_,rfl⟩
          · rw [sEs_getE hk,hd6,← sEs_set]; simp [sE]
          · simp [toTy,sz,szs] at hz; simp only; omega
          · omega
          · omega
        · by_cases k3 : j1 = 3
          · have hw1 : IntKind.i64.wrap ((s.length : Int) - 1) = ((s.length - 1 : Nat) : Int):=by rw [wrap64 (by omega) (by omega)]; omega
            have hl1 : s.length - 1 < s.length:=by omega
            have hge:=sEs_getE hl1
            have hlf:=sE_leaf (s[s.length - 1])
            have hxl:=hsm _ (List.getElem_mem hl1)
            generalize s[s.length - 1] = y at *
            simp only [zW,zX,zD,builtinA,isLeaf,const1,ustrA,simprocAttr,ti3,ti5,ti9,ti36,ti48,ti50,ti57,ti69,ti273,ca101,ca115,ca118,ca186,ca187,ca188,ca189,cf,Tryz.results99,hi,hg,hj,hlen,decide_eq_false k0,decide_eq_false k1,decide_eq_false k2,decide_eq_true k3,hw1,hge,sE,hgX,hsX,hjX,enc_length,enc_take,enc_drop,frzL_enc,enc_closed,Option.map_some]
            have hxb : SmX y:=hxl
            have hd6 : List.drop 6 ((sEs s).getD 0 []) = []:=by rw [sEs_getE (show 0 < s.length by omega)]; exact List.drop_eq_nil_of_le (by rw [sE_length]; exact Nat.le_refl _)
            refine ⟨⟨by omega,by omega⟩,by omega,⟨by omega,fun v hv=>hlf v hv⟩,outer_set A _ i _ (rd_closed _ _ _),s.set 0 y,_,?_,by simp; omega,smx_set hsm 0 _ hxb,?_,?_,rfl⟩
            · rw [hd6,← sEs_set]; simp [sE]
            · omega
            · omega
          · by_cases k4 : j1 = 4
            · simp only [zW,zX,zD,builtinA,isLeaf,const1,ustrA,simprocAttr,ti3,ti5,ti9,ti36,ti48,ti50,ti57,ti69,ti273,ca101,ca115,ca118,ca186,ca187,ca188,ca189,cf,Tryz.results99,hi,hg,hj,hlen,decide_eq_false k0,decide_eq_false k1,decide_eq_false k2,decide_eq_false k3,decide_eq_true k4]
              refine aloop_intro [5] (fun e A'=>∃ (s' : List SigI) (j' : Nat) (B' : List Box),s'.length ≤ 9 ∧ (∀ x ∈ s',SmX x) ∧ e = [(5,.own (A.length + j'))] ∧ A' = A.set i (Rd bs (p + 1 + 1)) ++ B' ∧ j' < B'.length ∧ B'.getD j' .dead = .row 6 (sEs s') 0) (fun e A'=>9 - rowsN A' (Abs.look 5 e)) ?_ ?_
              · simp only [zW,zX,zD,builtinA,isLeaf,const1,ustrA,simprocAttr,ti3,ti5,ti9,ti36,ti48,ti50,ti57,ti69,ti273,ca101,ca115,ca118,ca186,ca187,ca188,ca189,cf,Tryz.results99]
                exact ⟨s,j,B,by omega,fun x hx=>hsm x hx,rfl,rfl,hj,hg⟩
              · clear hgX hsX hjX hgY hgS
                rintro e A' ⟨s',j',B',hl9,hsx,rfl,rfl,hj',hg'⟩
                have hgX : ∀ Y,(B' ++ Y).getD j' .dead = .row 6 (sEs s') 0:=fun Y=>by rw [Abs.getD_append_left hj']; exact hg'
                have hsX : ∀ (Y : List Box) Z,(B' ++ Y).set j' Z = B'.set j' Z ++ Y:=fun Y Z=>by rw [List.set_append_left _ _ hj']
                have hjX : ∀ n,j' < B'.length + n:=fun n=>by omega
                have hlen':=sEs_length s'
                simp only [zW,zX,zD,builtinA,isLeaf,const1,ustrA,simprocAttr,ti3,ti5,ti9,ti36,ti48,ti50,ti57,ti69,ti273,ca101,ca115,ca118,ca186,ca187,ca188,ca189,cf,Tryz.results99,hi,hg',hj',hlen']
                refine condK_intro (fun h2=>?_) (fun h2=>?_)
                · have hr2 : s'.length ≤ 8:=by simp at h2; omega
                  obtain ⟨cc,hcc⟩ : ∃ cc,IntKind.u8.wrap (103 + IntKind.u8.wrap (s'.length : Int)) = cc:=⟨_,rfl⟩
                  simp only [wpc_skip,AThen_normal,wpc_block,wpc_seq,wpc_drawn]
                  refine .inr (drawE_intro [(false,0,2),(false,0,0),(false,0,0),(false,0,0),(false,0,0),(true,0,0),(false,1,1),(false,0,1),(false,1,1),(true,1,1),(true,2,2),(false,3,3)] [A.set i (Rd bs (p + 1 + 1)) ++ B',A.set i (Rd bs (p + 1 + 1)) ++ (B' ++ [.row 1 [[.int .u8 cc]] 0]),A.set i (Rd bs (p + 1 + 1)) ++ (B' ++ [.row 1 [[.int .u8 cc]] 0,.row 6 [.int .i64 3 :: .str [UInt8.ofNat cc.toNat] :: enc (toTy .num)] 0]),A.set i (Rd bs (p + 1 + 1)) ++ (B'.set j' .dead ++ [.row 1 [[.int .u8 cc]] 0,.row 6 [.int .i64 3 :: .str [UInt8.ofNat cc.toNat] :: enc (toTy .num)] 0,.row 6 (sEs s' ++ [.int .i64 3 :: .str [UInt8.ofNat cc.toNat] :: enc (toTy .num)]) 0])] 3 rfl (by kernel_rfl) (by kernel_rfl) (by kernel_rfl) (by kernel_rfl) (by kernel_rfl) (by kernel_rfl) ?_)
                  simp only [zW,zX,zD,builtinA,isLeaf,const1,ustrA,simprocAttr,ti3,ti5,ti9,ti36,ti48,ti50,ti57,ti69,ti273,ca101,ca115,ca118,ca186,ca187,ca188,ca189,cf,Tryz.results99,hi,hg',hj',hlen',hgX,hsX,hjX,enc_length,enc_take,enc_drop,frzL_enc,enc_closed,Option.map_some,hcc]
                  refine ⟨by simp,by simp [isByte],?_⟩
                  refine callEN_intro (fun A=>by simp only [zW,zX,zD,builtinA,isLeaf,const1,ustrA,simprocAttr]) (fun A=>spec_l1Num A) ?_ rfl rfl
                  simp only [zW,zX,zD,builtinA,isLeaf,const1,ustrA,simprocAttr,ti3,ti5,ti9,ti36,ti48,ti50,ti57,ti69,ti273,ca101,ca115,ca118,ca186,ca187,ca188,ca189,cf,Tryz.results99,hi,hg',hj',hlen',hgX,hsX,hjX,enc_length,enc_take,enc_drop,frzL_enc,enc_closed,Option.map_some,hcc,LoopK_eq]
                  have hrs : sEs s' ++ [.int .i64 3 :: .str [UInt8.ofNat cc.toNat] :: enc (toTy .num)] = sEs (s' ++ [⟨3,[UInt8.ofNat cc.toNat],toTy .num⟩]):=by simp [sEs,sE]
                  have hga : ∀ (Z1 Z2 Z : Box),(A.set i (Rd bs (p + 1 + 1)) ++ (B'.set j' .dead ++ [Z1,Z2,Z])).getD (A.length + (B'.length + 2)) .dead = Z:=fun Z1 Z2 Z=>by
                    rw [Abs.getD_append_right (by simp),Abs.getD_append_right (by simp)]; simp
                  have hgb : (A.set i (Rd bs (p + 1 + 1)) ++ B').getD (A.length + j') .dead = .row 6 (sEs s') 0:=by
                    rw [Abs.getD_append_right (by simp)]; simpa using hg'
                  refine ⟨fun v hv=>sE_leaf ⟨3,[UInt8.ofNat cc.toNat],toTy .num⟩ v hv,⟨fun r hr=>by rw [List.mem_singleton.1 hr]; simp [enc_length],by omega⟩,⟨s' ++ [⟨3,[UInt8.ofNat cc.toNat],toTy .num⟩],B'.length + 2,_,by simp; omega,?_,rfl,rfl,by simp,?_⟩,?_⟩
                  · intro x hx
                    rcases List.mem_append.1 hx with h | h
                    · exact hsx x h
                    · rw [List.mem_singleton.1 h]; exact ⟨by simp,by simp [toTy,sz,szs]⟩
                  · rw [Abs.getD_append_right (by simp),← hrs]; simp
                  · show 9 - rowsN _ (.own _) < 9 - rowsN _ (.own _)
                    rw [rowsN_own (hga _ _ _),rowsN_own hgb]
                    simp; omega
                · simp only [zW,zX,zD,builtinA,isLeaf,const1,ustrA,simprocAttr,ti3,ti5,ti9,ti36,ti48,ti50,ti57,ti69,ti273,ca101,ca115,ca118,ca186,ca187,ca188,ca189,cf,Tryz.results99,hi,hg',hj',hlen']
                  exact ⟨outer_set A _ i _ (rd_closed _ _ _),s',_,rfl,hl9,hsx,by omega,by omega,rfl⟩
            · simp only [zW,zX,zD,builtinA,isLeaf,const1,ustrA,simprocAttr,ti3,ti5,ti9,ti36,ti48,ti50,ti57,ti69,ti273,ca101,ca115,ca118,ca186,ca187,ca188,ca189,cf,Tryz.results99,hi,hg,hj,hlen,decide_eq_false k0,decide_eq_false k1,decide_eq_false k2,decide_eq_false k3,decide_eq_false k4]
              exact ⟨outer_set A _ i _ (rd_closed _ _ _),s,_,rfl,by omega,fun x hx=>hsm x hx,by omega,by omega,rfl⟩
end Go.Proofs.YtnjdbgiincliaaaGreat
namespace Go.Proofs.YtnjdbgiincliaaaGreat
open Go.Abs Go.RowKit Go.ChangeShapes Go.WideShapes Go.ChangeAt Go.ChangeMaps
end Go.Proofs.YtnjdbgiincliaaaGreat
