/- Whatever the expression that is drawn: the program's MaxFree is the model's, and of a valid expression it is the greatest of what its operands need, one less below a function, and of a variable its number and one. No condition beside the row's own. -/
import Derived.Test.YtijlnkfiadajhaaGreatK08
set_option linter.unusedVariables false
set_option linter.unusedSimpArgs false
namespace Go.Proofs.YtijlnkfiadajhaaGreat
open Go.Abs Go.RowKit Go.ChangeShapes Go.WideShapes Go.ChangeAt Go.ChangeMaps
theorem okX' (x : Ex) : szX x ≤ 1048576 → x.Ok:=by
  induction x using Ex.ind with
  | h k i m n t ks ih =>
    intro h
    rw [szX] at h
    exact .mk (by omega) (by omega) (okSz t (by omega)) (by omega) fun y hy=>ih y hy (by have:=szXs_mem hy; omega)
set_option maxRecDepth 100000 in
theorem spec_DrawExprValid (bs : List UInt8) (A : List Box) : ACalls Tryz.prog 120 [.aslice (byteRows bs)] A (fun r A'=>∃ x,r = .agg (encX x) ∧ szX x ≤ 1200 ∧ A' = A):=by
  refine acalls_enter (cf:=cf 10 [0,2,3]) foll Tryz.func120 Tryz.ntmps120 (by simp [cf]) ?_
  simp only [Tryz.f120,EnterK_some,zW,zX,zD,builtinA,isLeaf,const1,ustrA,simprocAttr,ti39,ca110,ca121,ca123,cf,Tryz.results120]
  refine callK_intro (by simp only [zW,zX,zD,builtinA,isLeaf,const1,ustrA,simprocAttr]; rfl) (spec_l17Open bs _) ?_ rfl
  rintro v A' ⟨bs',hb,rfl,rfl⟩
  simp only [zW,zX,zD,builtinA,isLeaf,const1,ustrA,simprocAttr,ti39,ca110,ca121,ca123,cf,Tryz.results120]
  refine callK_intro (by simp only [zW,zX,zD,builtinA,isLeaf,const1,ustrA,simprocAttr]; rfl) (spec_l4Any bs' 0 (A.length + 1) _ (by simp) (by simp [List.getD]) (by omega)) ?_ rfl
  rintro v A' ⟨x,p1,rfl,hz,hp1,hp2,rfl⟩
  simp only [zW,zX,zD,builtinA,isLeaf,const1,ustrA,simprocAttr,ti39,ca110,ca121,ca123,cf,Tryz.results120,encX_length,encX_take,encX_drop,frzL_encX,encX_closed,Option.map_some]
  refine callK_intro (by simp only [zW,zX,zD,builtinA,isLeaf,const1,ustrA,simprocAttr,frzL_encX,Option.map_some]; rfl) (spec_l4Mutate bs' x (by omega) p1 (A.length + 1) _ (by simp) (by simp [List.getD]) (by omega)) ?_ rfl
  rintro v A' ⟨y,p2,rfl,hz2,hq1,hq2,rfl⟩
  simp only [zW,zX,zD,builtinA,isLeaf,const1,ustrA,simprocAttr,ti39,ca110,ca121,ca123,cf,Tryz.results120,encX_length,encX_take,encX_drop,frzL_encX,encX_closed,Option.map_some]
  exact ⟨y,rfl,by omega⟩
set_option maxRecDepth 100000 in
theorem spec_DrawMaxFree (bs : List UInt8) (A : List Box) : ACalls Tryz.prog 48 [.aslice (byteRows bs)] A (fun r A'=>∃ x,r = .agg (encX x) ∧ szX x ≤ 1200 ∧ A' = A):=by
  refine acalls_enter (cf:=cf 5 [0,2]) foll Tryz.func48 Tryz.ntmps48 (by simp [cf]) ?_
  simp only [Tryz.f48,EnterK_some,zW,zX,zD,builtinA,isLeaf,const1,ustrA,simprocAttr,ti39,ca120,cf,Tryz.results48]
  refine callK_intro (by simp only [zW,zX,zD,builtinA,isLeaf,const1,ustrA,simprocAttr]; rfl) (spec_DrawExprValid bs _) ?_ rfl
  rintro v A' ⟨x,rfl,hz,rfl⟩
  simp only [zW,zX,zD,builtinA,isLeaf,const1,ustrA,simprocAttr,ti39,ca120,cf,Tryz.results48,encX_length,encX_take,encX_drop,frzL_encX,encX_closed,Option.map_some]
  exact ⟨x,rfl,hz⟩
theorem mostE_succ : ∀ (v : VE) (d : Int),okE v → 0 ≤ d → mostE v (d + 1) = max 0 (mostE v d - 1)
  | .var i,d,h,hd=>by simp only [mostE]; split <;> split <;> omega
  | .num _,d,h,hd=>by simp only [mostE]; omega
  | .nm _ _,d,h,hd=>by simp only [mostE]; omega
  | .fn _ b,d,h,hd=>by have:=mostE_succ b (d + 1) h.2 (by omega); simp only [mostE]; omega
  | .app a b,d,h,hd=>by
    have:=mostE_succ a d h.1 hd; have:=mostE_succ b d h.2 hd; simp only [mostE]; omega
  | .add a b,d,h,hd=>by
    have:=mostE_succ a d h.1 hd; have:=mostE_succ b d h.2 hd; simp only [mostE]; omega
  | .ite c a b,d,h,hd=>by
    have:=mostE_succ c d h.1 hd; have:=mostE_succ a d h.2.1 hd; have:=mostE_succ b d h.2.2 hd; simp only [mostE]; omega
def dqE (v : VE) : Int:=if kindE v = 4 then 1 else 0
def n0E (v : VE) : Int:=if kindE v = 1 then nE v + 1 else 0
def foldE (v : VE) (l : List VE) : Int:=l.foldl (fun n b=>max n (mostE b 0 - dqE v)) (n0E v)
theorem foldE_all (v : VE) (h : okE v) : foldE v (kidsE v) = mostE v 0:=by
  cases v with
  | var i=>have:=h.1; simp [foldE,kidsE,n0E,kindE,nE,mostE]; omega
  | num i=>simp [foldE,kidsE,n0E,kindE,nE,mostE]
  | nm m n=>simp [foldE,kidsE,n0E,kindE,nE,mostE]
  | fn t b=>have:=mostE_succ b 0 h.2 (by omega); simp [foldE,kidsE,n0E,dqE,kindE,nE,mostE] at this ⊢; omega
  | app a b=>simp [foldE,kidsE,n0E,dqE,kindE,nE,mostE]
  | add a b=>simp [foldE,kidsE,n0E,dqE,kindE,nE,mostE]
  | ite c a b=>simp [foldE,kidsE,n0E,dqE,kindE,nE,mostE]
theorem kid_ok : ∀ (v : VE),EOk v → ∀ b ∈ kidsE v,EOk b:=fun v h b hb=>by
  have h1:=h.ok; have h2:=h.dep; have h3:=h.cnt
  cases v with
  | var i=>simp [kidsE] at hb
  | num i=>simp [kidsE] at hb
  | nm m n=>simp [kidsE] at hb
  | fn t c =>
    simp [kidsE] at hb; simp only [okE,depE,cntE] at h1 h2 h3
    subst hb; exact ⟨h1.2,by omega,by omega⟩
  | app f a =>
    simp [kidsE] at hb; simp only [okE,depE,cntE] at h1 h2 h3
    rcases hb with rfl | rfl
    · exact ⟨h1.1,by omega,by omega⟩
    · exact ⟨h1.2,by omega,by omega⟩
  | add f a =>
    simp [kidsE] at hb; simp only [okE,depE,cntE] at h1 h2 h3
    rcases hb with rfl | rfl
    · exact ⟨h1.1,by omega,by omega⟩
    · exact ⟨h1.2,by omega,by omega⟩
  | ite c a e =>
    simp [kidsE] at hb; simp only [okE,depE,cntE] at h1 h2 h3
    rcases hb with rfl | rfl | rfl
    · exact ⟨h1.1,by omega,by omega⟩
    · exact ⟨h1.2.1,by omega,by omega⟩
    · exact ⟨h1.2.2,by omega,by omega⟩
theorem n0_le (v : VE) (h : okE v) : 0 ≤ n0E v ∧ n0E v ≤ 13 ∧ (kindE v = 1 → 0 ≤ nE v ∧ nE v ≤ 12):=by
  cases v with
  | var i=>have h1:=h.1; have h2:=h.2; simp [n0E,kindE,nE]; omega
  | _=>simp [n0E,kindE,nE]
theorem foldE_le (v : VE) (h : EOk v) (l : List VE) (hl : ∀ b ∈ l,EOk b) : 0 ≤ foldE v l ∧ foldE v l ≤ 13:=by
  have hq : 0 ≤ dqE v ∧ dqE v ≤ 1:=by rw [dqE]; split <;> omega
  have : ∀ (l : List VE) (n : Int),(∀ b ∈ l,EOk b) → 0 ≤ n ∧ n ≤ 13 → 0 ≤ l.foldl (fun n b=>max n (mostE b 0 - dqE v)) n ∧ l.foldl (fun n b=>max n (mostE b 0 - dqE v)) n ≤ 13:=by
    intro l
    induction l with
    | nil=>intro n _ h; exact h
    | cons b l ih =>
      intro n hl hn
      have hb:=mostE_le b 0 (hl b (by simp)).ok (by omega)
      exact ih _ (fun c hc=>hl c (by simp [hc])) ⟨by show (0 : Int) ≤ max n (mostE b 0 - dqE v); omega,by show max n (mostE b 0 - dqE v) ≤ 13; omega⟩
  exact this l _ hl ⟨(n0_le v h.ok).1,(n0_le v h.ok).2.1⟩
theorem rowsE_len (v : VE) : (rowsE v).length = (kidsE v).length:=by rw [rowsE,encXs_length]; simp
theorem kidsE_len (v : VE) : (kidsE v).length ≤ 3:=by cases v <;> simp [kidsE]
theorem szX_kid {v b : VE} (h : b ∈ kidsE v) : szX (toX b) ≤ szX (toX v):=by
  have e:=toX_node v
  have h1 : toX b ∈ (kidsE v).map toX:=List.mem_map_of_mem h
  have h2:=szXs_mem h1
  rw [e,szX]; omega
theorem foldE_take {v : VE} {i : Nat} (h : i < (kidsE v).length) : foldE v ((kidsE v).take (i + 1)) = max (foldE v ((kidsE v).take i)) (mostE ((kidsE v).getD i ve0) 0 - dqE v):=by
  have e : (kidsE v).take (i + 1) = (kidsE v).take i ++ [(kidsE v).getD i ve0]:=by rw [List.take_add_one]; simp [List.getD,h]
  rw [e,foldE,foldE,List.foldl_append]; rfl
theorem max_good (v : VE) (hv : EOk v) (hs : szX (toX v) ≤ 1048576) : (∀ A,ACalls Tryz.prog 50 [.agg (encX (toX v))] A (fun r A'=>r = .int .i64 (mostE v 0) ∧ A' = A)) ∧ (∀ A,ACalls Tryz.prog 49 [.agg (encX (toX v))] A (fun r A'=>r = .int .i64 (mostE v 0) ∧ A' = A)):=by
  refine ⟨fun A=>(spec_MaxFree _ (okX' _ hs) hs A).mono ?_,fun A=>(impl_MaxFree _ hs A).mono ?_⟩ <;>
  · rintro r A' ⟨⟨v',e,hv',rfl⟩ | ⟨h,rfl⟩,rfl⟩
    · exact ⟨by rw [toX_inj e],rfl⟩
    · rw [validX_toX hv] at h; cases h
theorem max_bad (x : Ex) (h : validX x = false) (hs : szX x ≤ 1048576) : (∀ A,ACalls Tryz.prog 50 [.agg (encX x)] A (fun r A'=>r = .int .i64 (-1) ∧ A' = A)) ∧ (∀ A,ACalls Tryz.prog 49 [.agg (encX x)] A (fun r A'=>r = .int .i64 (-1) ∧ A' = A)):=by
  refine ⟨fun A=>(spec_MaxFree _ (okX' _ hs) hs A).mono ?_,fun A=>(impl_MaxFree _ hs A).mono ?_⟩ <;>
  · rintro r A' ⟨⟨v',rfl,hv',rfl⟩ | ⟨_,rfl⟩,rfl⟩
    · rw [validX_toX hv'] at h; cases h
    · exact ⟨rfl,rfl⟩
set_option maxRecDepth 100000 in
set_option maxHeartbeats 4000000 in
theorem maxFree_true (bs : List UInt8) : ACalls Tryz.prog 10 [.aslice (byteRows bs)] [] (fun v _=>v = .bool true):=by
  refine acalls_enter (cf:=cf 58 [0,2,3,4,5,6,7,10,22,29,37,48,53]) foll Tryz.func10 Tryz.ntmps10 (by simp [cf]) ?_
  simp only [Tryz.f10,EnterK_some,zW,zX,zD,builtinA,isLeaf,const1,ustrA,simprocAttr,ti3,ti5,ti37,ti39,ti77,ca48,ca49,ca50,cf,Tryz.results10]
  by_cases hb : 1048576 < bs.length
  · have e1 : decide ((1048576 : Int) < bs.length) = true:=decide_eq_true (by omega)
    simp only [zW,zX,zD,builtinA,isLeaf,const1,ustrA,simprocAttr,ti3,ti5,ti37,ti39,ti77,ca48,ca49,ca50,cf,Tryz.results10,byteRows_length,e1]
  · have e1 : decide ((1048576 : Int) < bs.length) = false:=decide_eq_false (by omega)
    simp only [zW,zX,zD,builtinA,isLeaf,const1,ustrA,simprocAttr,ti3,ti5,ti37,ti39,ti77,ca48,ca49,ca50,cf,Tryz.results10,byteRows_length,e1]
    refine callK_intro (by simp only [zW,zX,zD,builtinA,isLeaf,const1,ustrA,simprocAttr]; rfl) (spec_DrawMaxFree bs _) ?_ rfl
    rintro w A' ⟨x,rfl,hx,rfl⟩
    rcases validX_cases x with ⟨v,rfl,hv⟩ | hbad
    · obtain ⟨hsM,hiM⟩:=max_good v hv (by omega)
      have hM:=mostE_le v 0 hv.ok (by omega)
      have hfa:=foldE_all v hv.ok
      rw [encX_node] at hsM hiM ⊢
      have bn : decide (mostE v 0 ≠ mostE v 0) = false:=by simp
      have bl : decide (mostE v 0 < 0) = false:=decide_eq_false (by omega)
      simp only [zW,zX,zD,builtinA,isLeaf,const1,ustrA,simprocAttr,ti3,ti5,ti37,ti39,ti77,ca48,ca49,ca50,cf,Tryz.results10]
      refine callK_intro (by simp only [zW,zX,zD,builtinA,isLeaf,const1,ustrA,simprocAttr,]; rfl) (hiM _) ?_ rfl; rintro v A' ⟨rfl,rfl⟩
      simp only [zW,zX,zD,builtinA,isLeaf,const1,ustrA,simprocAttr,ti3,ti5,ti37,ti39,ti77,ca48,ca49,ca50,cf,Tryz.results10]
      refine callK_intro (by simp only [zW,zX,zD,builtinA,isLeaf,const1,ustrA,simprocAttr,]; rfl) (hsM _) ?_ rfl; rintro v A' ⟨rfl,rfl⟩
      simp only [zW,zX,zD,builtinA,isLeaf,const1,ustrA,simprocAttr,ti3,ti5,ti37,ti39,ti77,ca48,ca49,ca50,cf,Tryz.results10,bn,bl]
      have hn:=n0_le v hv.ok
      have hkl:=kidsE_len v
      by_cases hk1 : kindE v = 1
      · have hw1 : IntKind.i64.wrap (nE v + 1) = nE v + 1:=wrap64 (by have:=hn.2.2 hk1; omega) (by have:=hn.2.2 hk1; omega)
        have he : foldE v (List.take 0 (kidsE v)) = nE v + 1:=by show n0E v = _; rw [n0E,if_pos hk1]
        simp only [zW,zX,zD,builtinA,isLeaf,const1,ustrA,simprocAttr,ti3,ti5,ti37,ti39,ti77,ca48,ca49,ca50,cf,Tryz.results10,decide_eq_true hk1,hw1]
        rw [← he]
        refine aloop_intro [3,4,5,6] (fun e A'=>∃ i,i ≤ (kidsE v).length ∧ e = [(3,.ptr 0 0),(4,.int .i64 (mostE v 0)),(5,.int .i64 (foldE v ((kidsE v).take i))),(6,.int .i64 (i : Nat))] ∧ A' = [.cells [.int .i64 (kindE v),.int .i64 (nE v),.str (modE v),.str (nameE v),.int .i64 (argE v).kind,.str (argE v).mod,.str (argE v).name,.slice (encs (argE v).kids),.slice (rowsE v)]]) (fun e _=>(kidsE v).length - (intOf (Abs.look 6 e)).toNat) ?_ ?_
        · simp only [zW,zX,zD,builtinA,isLeaf,const1,ustrA,simprocAttr,ti3,ti5,ti37,ti39,ti77,ca48,ca49,ca50,cf,Tryz.results10]
          exact ⟨0,by omega,by first | rfl | (rw [he]; rfl)⟩
        · rintro e A' ⟨i,hi,rfl,rfl⟩
          by_cases hz : (i : Int) < ((kidsE v).length : Int)
          · have hi2 : i < (kidsE v).length:=by omega
            have hrow:=rowsE_getD hi2
            have hmem : (kidsE v).getD i ve0 ∈ kidsE v:=by simp [List.getD,hi2]
            have hf:=foldE_le v hv ((kidsE v).take i) fun b hb=>kid_ok v hv b (List.mem_of_mem_take hb)
            have hst:=foldE_take hi2
            have hbo:=kid_ok v hv _ hmem
            have hbs:=szX_kid hmem
            generalize (kidsE v).getD i ve0 = b at *
            have hk:=(max_good b hbo (by omega)).2
            have hmb:=mostE_le b 0 hbo.ok (by omega)
            have hi1 : IntKind.i64.wrap ((i : Int) + 1) = ((i + 1 : Nat) : Int):=by rw [wrap64 (by omega) (by omega)]; rfl
            have hwk : IntKind.i64.wrap (mostE b 0 - 1) = mostE b 0 - 1:=wrap64 (by omega) (by omega)
            simp only [zW,zX,zD,builtinA,isLeaf,const1,ustrA,simprocAttr,ti3,ti5,ti37,ti39,ti77,ca48,ca49,ca50,cf,Tryz.results10,rowsE_len,decide_eq_true hz,hrow,encX_length,encX_take]
            refine ⟨by omega,?_⟩
            refine callK_intro (by simp only [zW,zX,zD,builtinA,isLeaf,const1,ustrA,simprocAttr,frzL_encX,Option.map_some]; rfl) (hk _) ?_ rfl; rintro v A' ⟨rfl,rfl⟩
            by_cases hk4 : kindE v = 4
            · have hdq : dqE v = 1:=by rw [dqE,if_pos hk4]
              rw [hdq] at hst
              simp only [zW,zX,zD,builtinA,isLeaf,const1,ustrA,simprocAttr,ti3,ti5,ti37,ti39,ti77,ca48,ca49,ca50,cf,Tryz.results10,decide_eq_true hk4,hwk]
              by_cases hg : foldE v ((kidsE v).take i) < mostE b 0 - 1
              · have hst' : foldE v ((kidsE v).take (i + 1)) = mostE b 0 - 1:=by omega
                simp only [zW,zX,zD,builtinA,isLeaf,const1,ustrA,simprocAttr,ti3,ti5,ti37,ti39,ti77,ca48,ca49,ca50,cf,Tryz.results10,decide_eq_true hg,hi1,LoopK_eq]
                refine ⟨⟨i + 1,by omega,by rw [hst']⟩,?_⟩
                simp only [intOf]; omega
              · have hst' : foldE v ((kidsE v).take (i + 1)) = foldE v ((kidsE v).take i):=by omega
                simp only [zW,zX,zD,builtinA,isLeaf,const1,ustrA,simprocAttr,ti3,ti5,ti37,ti39,ti77,ca48,ca49,ca50,cf,Tryz.results10,decide_eq_false hg,hi1,LoopK_eq]
                refine ⟨⟨i + 1,by omega,by rw [hst']⟩,?_⟩
                simp only [intOf]; omega
            · have hdq : dqE v = 0:=by rw [dqE,if_neg hk4]
              rw [hdq] at hst
              simp only [zW,zX,zD,builtinA,isLeaf,const1,ustrA,simprocAttr,ti3,ti5,ti37,ti39,ti77,ca48,ca49,ca50,cf,Tryz.results10,decide_eq_false hk4]
              by_cases hg : foldE v ((kidsE v).take i) < mostE b 0
              · have hst' : foldE v ((kidsE v).take (i + 1)) = mostE b 0:=by omega
                simp only [zW,zX,zD,builtinA,isLeaf,const1,ustrA,simprocAttr,ti3,ti5,ti37,ti39,ti77,ca48,ca49,ca50,cf,Tryz.results10,decide_eq_true hg,hi1,LoopK_eq]
                refine ⟨⟨i + 1,by omega,by rw [hst']⟩,?_⟩
                simp only [intOf]; omega
              · have hst' : foldE v ((kidsE v).take (i + 1)) = foldE v ((kidsE v).take i):=by omega
                simp only [zW,zX,zD,builtinA,isLeaf,const1,ustrA,simprocAttr,ti3,ti5,ti37,ti39,ti77,ca48,ca49,ca50,cf,Tryz.results10,decide_eq_false hg,hi1,LoopK_eq]
                refine ⟨⟨i + 1,by omega,by rw [hst']⟩,?_⟩
                simp only [intOf]; omega
          · have hie : i = (kidsE v).length:=by omega
            subst hie
            simp only [zW,zX,zD,builtinA,isLeaf,const1,ustrA,simprocAttr,ti3,ti5,ti37,ti39,ti77,ca48,ca49,ca50,cf,Tryz.results10,rowsE_len,decide_eq_false hz,List.take_length,hfa]
            try simp
      · have he : foldE v (List.take 0 (kidsE v)) = 0:=by show n0E v = _; rw [n0E,if_neg hk1]
        simp only [zW,zX,zD,builtinA,isLeaf,const1,ustrA,simprocAttr,ti3,ti5,ti37,ti39,ti77,ca48,ca49,ca50,cf,Tryz.results10,decide_eq_false hk1]
        refine aloop_intro [3,4,5,6] (fun e A'=>∃ i,i ≤ (kidsE v).length ∧ e = [(3,.ptr 0 0),(4,.int .i64 (mostE v 0)),(5,.int .i64 (foldE v ((kidsE v).take i))),(6,.int .i64 (i : Nat))] ∧ A' = [.cells [.int .i64 (kindE v),.int .i64 (nE v),.str (modE v),.str (nameE v),.int .i64 (argE v).kind,.str (argE v).mod,.str (argE v).name,.slice (encs (argE v).kids),.slice (rowsE v)]]) (fun e _=>(kidsE v).length - (intOf (Abs.look 6 e)).toNat) ?_ ?_
        · simp only [zW,zX,zD,builtinA,isLeaf,const1,ustrA,simprocAttr,ti3,ti5,ti37,ti39,ti77,ca48,ca49,ca50,cf,Tryz.results10]
          exact ⟨0,by omega,by first | rfl | (rw [he]; rfl)⟩
        · rintro e A' ⟨i,hi,rfl,rfl⟩
          by_cases hz : (i : Int) < ((kidsE v).length : Int)
          · have hi2 : i < (kidsE v).length:=by omega
            have hrow:=rowsE_getD hi2
            have hmem : (kidsE v).getD i ve0 ∈ kidsE v:=by simp [List.getD,hi2]
            have hf:=foldE_le v hv ((kidsE v).take i) fun b hb=>kid_ok v hv b (List.mem_of_mem_take hb)
            have hst:=foldE_take hi2
            have hbo:=kid_ok v hv _ hmem
            have hbs:=szX_kid hmem
            generalize (kidsE v).getD i ve0 = b at *
            have hk:=(max_good b hbo (by omega)).2
            have hmb:=mostE_le b 0 hbo.ok (by omega)
            have hi1 : IntKind.i64.wrap ((i : Int) + 1) = ((i + 1 : Nat) : Int):=by rw [wrap64 (by omega) (by omega)]; rfl
            have hwk : IntKind.i64.wrap (mostE b 0 - 1) = mostE b 0 - 1:=wrap64 (by omega) (by omega)
            simp only [zW,zX,zD,builtinA,isLeaf,const1,ustrA,simprocAttr,ti3,ti5,ti37,ti39,ti77,ca48,ca49,ca50,cf,Tryz.results10,rowsE_len,decide_eq_true hz,hrow,encX_length,encX_take]
            refine ⟨by omega,?_⟩
            refine callK_intro (by simp only [zW,zX,zD,builtinA,isLeaf,const1,ustrA,simprocAttr,frzL_encX,Option.map_some]; rfl) (hk _) ?_ rfl; rintro v A' ⟨rfl,rfl⟩
            by_cases hk4 : kindE v = 4
            · have hdq : dqE v = 1:=by rw [dqE,if_pos hk4]
              rw [hdq] at hst
              simp only [zW,zX,zD,builtinA,isLeaf,const1,ustrA,simprocAttr,ti3,ti5,ti37,ti39,ti77,ca48,ca49,ca50,cf,Tryz.results10,decide_eq_true hk4,hwk]
              by_cases hg : foldE v ((kidsE v).take i) < mostE b 0 - 1
              · have hst' : foldE v ((kidsE v).take (i + 1)) = mostE b 0 - 1:=by omega
                simp only [zW,zX,zD,builtinA,isLeaf,const1,ustrA,simprocAttr,ti3,ti5,ti37,ti39,ti77,ca48,ca49,ca50,cf,Tryz.results10,decide_eq_true hg,hi1,LoopK_eq]
                refine ⟨⟨i + 1,by omega,by rw [hst']⟩,?_⟩
                simp only [intOf]; omega
              · have hst' : foldE v ((kidsE v).take (i + 1)) = foldE v ((kidsE v).take i):=by omega
                simp only [zW,zX,zD,builtinA,isLeaf,const1,ustrA,simprocAttr,ti3,ti5,ti37,ti39,ti77,ca48,ca49,ca50,cf,Tryz.results10,decide_eq_false hg,hi1,LoopK_eq]
                refine ⟨⟨i + 1,by omega,by rw [hst']⟩,?_⟩
                simp only [intOf]; omega
            · have hdq : dqE v = 0:=by rw [dqE,if_neg hk4]
              rw [hdq] at hst
              simp only [zW,zX,zD,builtinA,isLeaf,const1,ustrA,simprocAttr,ti3,ti5,ti37,ti39,ti77,ca48,ca49,ca50,cf,Tryz.results10,decide_eq_false hk4]
              by_cases hg : foldE v ((kidsE v).take i) < mostE b 0
              · have hst' : foldE v ((kidsE v).take (i + 1)) = mostE b 0:=by omega
                simp only [zW,zX,zD,builtinA,isLeaf,const1,ustrA,simprocAttr,ti3,ti5,ti37,ti39,ti77,ca48,ca49,ca50,cf,Tryz.results10,decide_eq_true hg,hi1,LoopK_eq]
                refine ⟨⟨i + 1,by omega,by rw [hst']⟩,?_⟩
                simp only [intOf]; omega
              · have hst' : foldE v ((kidsE v).take (i + 1)) = foldE v ((kidsE v).take i):=by omega
                simp only [zW,zX,zD,builtinA,isLeaf,const1,ustrA,simprocAttr,ti3,ti5,ti37,ti39,ti77,ca48,ca49,ca50,cf,Tryz.results10,decide_eq_false hg,hi1,LoopK_eq]
                refine ⟨⟨i + 1,by omega,by rw [hst']⟩,?_⟩
                simp only [intOf]; omega
          · have hie : i = (kidsE v).length:=by omega
            subst hie
            simp only [zW,zX,zD,builtinA,isLeaf,const1,ustrA,simprocAttr,ti3,ti5,ti37,ti39,ti77,ca48,ca49,ca50,cf,Tryz.results10,rowsE_len,decide_eq_false hz,List.take_length,hfa]
            try simp
    · obtain ⟨hsM,hiM⟩:=max_bad x hbad (by omega)
      simp only [zW,zX,zD,builtinA,isLeaf,const1,ustrA,simprocAttr,ti3,ti5,ti37,ti39,ti77,ca48,ca49,ca50,cf,Tryz.results10,encX_length,encX_take,encX_drop,frzL_encX,encX_closed,Option.map_some]
      refine callK_intro (by simp only [zW,zX,zD,builtinA,isLeaf,const1,ustrA,simprocAttr,frzL_encX,Option.map_some]; rfl) (hiM _) ?_ rfl; rintro v A' ⟨rfl,rfl⟩
      simp only [zW,zX,zD,builtinA,isLeaf,const1,ustrA,simprocAttr,ti3,ti5,ti37,ti39,ti77,ca48,ca49,ca50,cf,Tryz.results10,encX_length,encX_take,encX_drop,frzL_encX,encX_closed,Option.map_some]
      refine callK_intro (by simp only [zW,zX,zD,builtinA,isLeaf,const1,ustrA,simprocAttr,frzL_encX,Option.map_some]; rfl) (hsM _) ?_ rfl; rintro v A' ⟨rfl,rfl⟩
      simp only [zW,zX,zD,builtinA,isLeaf,const1,ustrA,simprocAttr,ti3,ti5,ti37,ti39,ti77,ca48,ca49,ca50,cf,Tryz.results10,encX_length,encX_take,encX_drop,frzL_encX,encX_closed,Option.map_some]
      refine callK_intro (by simp only [zW,zX,zD,builtinA,isLeaf,const1,ustrA,simprocAttr,frzL_encX,Option.map_some]; rfl) (hsM _) ?_ rfl; rintro v A' ⟨rfl,rfl⟩
      simp only [zW,zX,zD,builtinA,isLeaf,const1,ustrA,simprocAttr,ti3,ti5,ti37,ti39,ti77,ca48,ca49,ca50,cf,Tryz.results10]
theorem maxFree_rec : ∀ t ∈ Tryz.f10.params.toList,Tryz.prog.readableRec t = true ∧ t < Tryz.prog.types.size:=by
  rw [Tryz.params10]
  intro t ht
  simp at ht
  subst ht
  exact ⟨by kernel_rfl,of_decide_eq_true (by kernel_rfl)⟩
set_option maxRecDepth 100000 in
theorem maxFree_lifted (os : Os) (started : os.Started) (H : Type) (enc' : TypeId × Value → H) :
    ReturnsInHanded {} Tryz.checked os 10 .any (Rows.fnMaxFreeSpec.pre6 enc' Tryz.prog Tryz.f10 Rows.fnMaxFreeRow.domain false) (Rows.fnMaxFreeSpec.post enc' Tryz.prog Tryz.f10 false true false false):=by
  refine returnsInHanded_of_change (C:=Tryz.checked) ownk started (by kernel_rfl) Tryz.func10
    (ChangeSpec.witness6 (enc:=enc') (C:=Tryz.checked) false ⟨#[],#[.slice none 0 0],[]⟩ 8 (by kernel_rfl) (by kernel_rfl) (by kernel_rfl) (by kernel_rfl)) ?_
  intro W base args ds gs before hval0 hW hcnd _
  have hval : ∀ (j : Nat) t v,Tryz.f10.params[j]? = some t → args[j]? = some v → Value.okWide Tryz.prog W .any base t v:=hval0
  have hW':=hW
  obtain ⟨p,q,hA0,hV,rfl,hfz,hnd⟩:=hW
  have hA : DataW.TrodAll enc' Tryz.prog W 0 (fun _=>true) true Tryz.f10.params.toList args.toList ds p:=hA0
  rw [Tryz.params10] at hA hval
  have hlt:=hA.lt
  obtain ⟨v0,d0,rfl,rfl,h0⟩:=trodAll_one hA
  obtain ⟨rfl,rfl⟩:=trodVars_none hV
  obtain ⟨x0,r0⟩:=rv_bytes Tryz.underlying77 Tryz.underlying5 (by kernel_rfl) (hval 0 77 v0 rfl rfl) h0 (fun x hx=>hlt x (by simp [hx]))
  refine (law_calls (maxFree_true x0) (.cons r0 .nil)).mono fun e W' ⟨he,hb⟩=>?_
  subst he
  exact ⟨_,rfl,law_post laid maxFree_rec rfl Tryz.underlying4 (by kernel_rfl) ⟨rfl,rfl⟩ rfl hW' hb⟩
theorem maxFree_f9 : (Rows.fnMaxFreeRow.inPlace == Tryz.pinned.checked.prog.inPlace 10) = true:=by kernel_rfl
theorem maxFree_f10 : (Rows.fnMaxFreeRow.unfollowed == Tryz.pinned.checked.prog.unfollowed 10) = true:=by kernel_rfl
theorem maxFree_f11 : (Rows.fnMaxFreeRow.recurses == Tryz.pinned.checked.prog.recurses 10) = true:=by kernel_rfl
theorem maxFree_f12 : (Rows.fnMaxFreeRow.named == Tryz.pinned.checked.prog.varsNamed 10) = true:=by kernel_rfl
theorem maxFree_f16 : (Rows.fnMaxFreeRow.loops == (Tryz.f10.params.toList ++ Rows.fnMaxFreeSpec.plain.varTypes Tryz.pinned.checked.prog).any (Tryz.pinned.checked.prog.loopsFrom ·)) = true:=by kernel_rfl
theorem maxFree_f17 : (Rows.fnMaxFreeRow.wideKeys == (Tryz.f10.params.toList ++ Rows.fnMaxFreeSpec.plain.varTypes Tryz.pinned.checked.prog ++ Tryz.f10.resultTypes.toList).any (Tryz.pinned.checked.prog.wideKeysFrom ·)) = true:=by kernel_rfl
theorem maxFree_f22 : (Rows.fnMaxFreeRow.plainKeys == Tryz.pinned.checked.prog.plainKeys) = true:=by kernel_rfl
theorem maxFree_f26 : (Rows.fnMaxFreeRow.lifted == Tryz.pinned.checked.prog.liftsFinal) = true:=by kernel_rfl
theorem maxFree_f27 : (Tryz.pinned.checked.prog.make == some Rows.fnMaxFreeRow.make) = true:=by kernel_rfl
theorem maxFree_facts : joinedFacts Tryz.pinned.checked.prog 10 Tryz.f10 Rows.fnMaxFreeSpec Rows.fnMaxFreeRow = true :=
  jf_of (by kernel_rfl) jp1 jp2 (by kernel_rfl) (by kernel_rfl) (by kernel_rfl) jp6 (by kernel_rfl) jp8 maxFree_f9 maxFree_f10 maxFree_f11 maxFree_f12 (by kernel_rfl) (by kernel_rfl) (by kernel_rfl) maxFree_f16 maxFree_f17 (by kernel_rfl) (by kernel_rfl) (by kernel_rfl) (by kernel_rfl) maxFree_f22 (by kernel_rfl) jp24 jp25 maxFree_f26 maxFree_f27 (by kernel_rfl) (by kernel_rfl) (by kernel_rfl) (by kernel_rfl)
theorem maxFree_holds : Rows.FnMaxFreeSaid :=
  OpenClaim.holds_of_wide 10 Tryz.f10 rfl rfl rfl rfl rfl rfl rfl ⟨rfl,rfl,rfl,rfl,rfl⟩ rfl rfl rfl rfl rfl (by kernel_rfl) Tryz.func10 maxFree_facts
    (of_decide_eq_true (by kernel_rfl)) (by unfold Func.isWrapper; first | (rw [if_pos (by decide +kernel)]; kernel_rfl) | (rw [if_neg (by decide +kernel)]; exact ⟨rfl,rfl⟩))
    (fun os started H enc' _=>maxFree_lifted os started H enc')
end Go.Proofs.YtijlnkfiadajhaaGreat
