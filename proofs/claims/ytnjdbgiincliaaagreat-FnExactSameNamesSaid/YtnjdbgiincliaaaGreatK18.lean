/- PrRead, PrProg, PrBg, Jf. -/
import Derived.Test.YtnjdbgiincliaaaGreatK17
import Derived.Test.YtnjdbgiincliaaaGreatAbsW3
import Derived.Test.YtnjdbgiincliaaaGreatRows
/- The program's reading of declarations and programs. -/
set_option linter.unusedVariables false
set_option linter.unusedSimpArgs false
namespace Go.Proofs.YtnjdbgiincliaaaGreat
open Go.Abs Go.RowKit
theorem ACalls.shut {P : Program} {f : FuncId} {args : List AV} {A : List Box} {R R' : AV → List Box → Prop} (h : ACalls P f args A R)
    (hr : ∀ r A',R r A' → R' r A' ∨ ∃ j sz rows s t,r = .tuple [.own j,t] ∧ j < A'.length ∧ A'.getD j .dead = .row sz rows s ∧ R' (.tuple [.slice rows,t]) (A'.set j (.row sz rows rows.length))) : ACalls P f args A R' :=
  fun G w base xs h1 h2=>(h G w base xs h1 h2).mono fun e w' ⟨x,v,A',G',a1,a2,a3,a4,a5,a6⟩=>by
    rcases hr v A' a2 with h' | ⟨j,sz,rows,s,t,rfl,hj,hb,h'⟩
    · exact ⟨x,v,A',G',a1,h',a3,a4,a5,a6⟩
    · obtain ⟨G2,b1,b2,b3⟩:=a4.shutRow hj hb
      cases a3 with
      | tuple _ ys hs hh =>
        have q0:=hh 0 (by simp)
        have q1:=hh 1 (by simp)
        simp only [List.getD_cons_zero,List.getD_cons_succ] at q0 q1
        generalize hz : ys.getD 0 undef = z at q0
        cases q0 with
        | own _ hi =>
          refine ⟨_,_,_,G2,a1,h',.tuple _ ys hs fun i hi'=>?_,b1,a5.trans b2,a6⟩
          rcases i with _ | _ | i
          · simp only [List.getD_cons_zero]; rw [hz]; exact b3
          · simp only [List.getD_cons_succ,List.getD_cons_zero]; exact q1.mono b2
          · simp at hi'; omega
set_option maxRecDepth 100000 in
theorem rd_arg (q : List UInt8) (A : List Box) : ACalls Tryz.prog 223 [.str q] A (fun r A'=>r = .tuple [.str q,.bool (moduleB q)] ∧ A' = A):=by
  refine acalls_enter (cf:=cf 7 [0,2,3]) foll Tryz.func223 Tryz.ntmps223 (by simp [cf]) ?_
  simp only [Tryz.f223,EnterK_some,zW,zX,zD,builtinA,isLeaf,const1,ustrA,simprocAttr,ca38,cf,Tryz.results223]
  refine callK_intro (by simp only [zW,zX,zD,builtinA,isLeaf,const1,ustrA,simprocAttr,Option.map_some]; rfl) (impl_ModuleName q _) ?_ rfl; rintro v A' ⟨rfl,rfl⟩
  simp only [zW,zX,zD,builtinA,isLeaf,const1,ustrA,simprocAttr,ca38,cf,Tryz.results223]
set_option maxRecDepth 100000 in
theorem impl_readEachA (s : Nms) (hs : s.length ≤ 1048576) (A : List Box) : ACalls Tryz.prog 222 [.slice (aEs s),.int .i64 3,.func (.func 223) [] []] A (fun r A'=>∃ B,A' = A ++ B ∧
    ((∃ j,s.length ≤ 3 ∧ argsB s = true ∧ r = .tuple [.own (A.length + j),.bool true] ∧ j < B.length ∧ B.getD j .dead = .row 1 (aEs s) 0) ∨ ((¬ s.length ≤ 3 ∨ argsB s = false) ∧ r = .tuple [.nils,.bool false]))):=by
  by_cases h8 : s.length ≤ 3
  · have d1 : decide ((s.length : Int) > 3) = false:=by simp; omega
    have d1' : decide ((3 : Int) < (s.length : Int)) = false:=by simp; omega
    refine acalls_enterK (cf:=cf 41 [0,1,2,6,7,8,9,10,11,12,16,20,21,22,23,34]) foll Tryz.func222 Tryz.ntmps222 (by simp [cf]) ?_
    simp only [Tryz.f222,EnterK_some,zW,zX,zD,builtinA,isLeaf,const1,ustrA,simprocAttr,ti3,ti9,ti48,cf,Tryz.results222]
    simp only [zW,zX,zD,builtinA,isLeaf,const1,ustrA,simprocAttr,ti3,ti9,ti48,cf,Tryz.results222,aEs_length,d1,d1']
    refine ⟨⟨by omega,by omega,by omega⟩,?_⟩
    refine aloop_intro [2,8,20,21,22] (fun e A'=>∃ i,i ≤ s.length ∧ (∀ k,k < i → moduleB (s.getD k []) = true) ∧ e = [(2,.func (.func 223) [] []),(8,.own A.length),(20,.slice (aEs s)),(21,.int .i64 s.length),(22,.int .i64 i)] ∧ A' = A ++ [.row 1 (aEs (s.take i) ++ List.replicate (s.length - i) zns) 0]) (fun e _=>s.length - (intOf (Abs.look 22 e)).toNat) ?_ ?_
    · simp only [zW,zX,zD,builtinA,isLeaf,const1,ustrA,simprocAttr,ti3,ti9,ti48,cf,Tryz.results222]
      exact ⟨0,by omega,fun k hk=>by omega,rfl,by simp [aEs,zns]⟩
    · rintro e A' ⟨i,hi,hq,rfl,rfl⟩
      by_cases hlt : i < s.length
      · have d2 : decide ((i : Int) < (s.length : Int)) = true:=by simp; omega
        have hlt' : 0 ≤ (i : Int) ∧ (i : Int) < (s.length : Int):=by omega
        have hg:=aEs_getD hlt
        have hi1 : IntKind.i64.wrap ((i : Int) + 1) = ((i + 1 : Nat) : Int):=by rw [wrap64 (by omega) (by omega)]; rfl
        have hst:=nrow_step hlt
        have hno:=@argsB_no s i hlt
        have hlen : (aEs (List.take i s)).length + (List.replicate (s.length - i) zns).length = s.length:=by
          simp [aEs_length]; omega
        have hnext : moduleB (s.getD i []) = true → ∀ k,k < i + 1 → moduleB (s.getD k []) = true:=fun h k hk=>by
          rcases Nat.lt_succ_iff_lt_or_eq.mp hk with h' | rfl
          · exact hq k h'
          · exact h
        have hra:=fun A=>rd_arg (s.getD i []) A
        generalize s.getD i [] = x at *
        cases hm : moduleB x with
        | true =>
          rw [hm] at hra
          simp only [zW,zX,zD,builtinA,isLeaf,const1,ustrA,simprocAttr,ti3,ti9,ti48,cf,Tryz.results222,aEs_length,d2,hg]
          refine ⟨hlt',?_⟩
          refine wpO_callv _ _ _ _ _ _ _ _ _ _ _ _ _ _ _ ?_
          simp only [zW,zX,zD,builtinA,isLeaf,const1,ustrA,simprocAttr,ti3,ti9,ti48,cf,Tryz.results222]
          refine ⟨by kernel_rfl,?_⟩
          refine callK_intro (by simp only [zW,zX,zD,builtinA,isLeaf,const1,ustrA,simprocAttr,Option.map_some,List.nil_append,List.append_nil]; rfl) (hra _) ?_ rfl
          rintro r A' ⟨rfl,rfl⟩
          simp only [zW,zX,zD,builtinA,isLeaf,const1,ustrA,simprocAttr,ti3,ti9,ti48,cf,Tryz.results222,hlen,hst,hi1,LoopK_eq]
          refine ⟨⟨by omega,by omega⟩,⟨by omega,by omega,fun v hv=>by rw [List.mem_singleton.1 hv]⟩,⟨i + 1,by omega,hnext hm,rfl,rfl⟩,?_⟩
          simp only [intOf]; omega
        | false =>
          rw [hm] at hra
          simp only [zW,zX,zD,builtinA,isLeaf,const1,ustrA,simprocAttr,ti3,ti9,ti48,cf,Tryz.results222,aEs_length,d2,hg]
          refine ⟨hlt',?_⟩
          refine wpO_callv _ _ _ _ _ _ _ _ _ _ _ _ _ _ _ ?_
          simp only [zW,zX,zD,builtinA,isLeaf,const1,ustrA,simprocAttr,ti3,ti9,ti48,cf,Tryz.results222]
          refine ⟨by kernel_rfl,?_⟩
          refine callK_intro (by simp only [zW,zX,zD,builtinA,isLeaf,const1,ustrA,simprocAttr,Option.map_some,List.nil_append,List.append_nil]; rfl) (hra _) ?_ rfl
          rintro r A' ⟨rfl,rfl⟩
          simp only [zW,zX,zD,builtinA,isLeaf,const1,ustrA,simprocAttr,ti3,ti9,ti48,cf,Tryz.results222]
          exact ⟨_,rfl,.inr (.inr (hno hm))⟩
      · have d2 : decide ((i : Int) < (s.length : Int)) = false:=by simp; omega
        have e : i = s.length:=by omega
        subst e
        simp only [zW,zX,zD,builtinA,isLeaf,const1,ustrA,simprocAttr,ti3,ti9,ti48,cf,Tryz.results222,aEs_length,d2]
        exact ⟨_,rfl,.inl ⟨0,h8,argsB_yes hq,rfl,by simp,by simp [List.take_length]⟩⟩
  · have d1 : decide ((s.length : Int) > 3) = true:=by simp; omega
    have d1' : decide ((3 : Int) < (s.length : Int)) = true:=by simp; omega
    refine acalls_enterK (cf:=cf 41 [0,1,2,6,7,8,9,10,11,12,16,20,21,22,23,34]) foll Tryz.func222 Tryz.ntmps222 (by simp [cf]) ?_
    simp only [Tryz.f222,EnterK_some,zW,zX,zD,builtinA,isLeaf,const1,ustrA,simprocAttr,ti3,ti9,ti48,cf,Tryz.results222]
    simp only [zW,zX,zD,builtinA,isLeaf,const1,ustrA,simprocAttr,ti3,ti9,ti48,cf,Tryz.results222,aEs_length,d1,d1']
    exact ⟨[],by simp,.inr (.inl h8)⟩
theorem impl_readArgs (s : Nms) (hs : s.length ≤ 1048576) (A : List Box) : ACalls Tryz.prog 222 [.slice (aEs s),.int .i64 3,.func (.func 223) [] []] A (fun r A'=>∃ B,A' = A ++ B ∧
    ((s.length ≤ 3 ∧ argsB s = true ∧ r = .tuple [.slice (aEs s),.bool true]) ∨ ((¬ s.length ≤ 3 ∨ argsB s = false) ∧ r = .tuple [.nils,.bool false]))) :=
  ACalls.shut (impl_readEachA s hs A) fun r A' ⟨B,hA,h⟩=>by
    subst hA
    rcases h with ⟨j,h3,ha,rfl,hj,hg⟩ | h
    · refine .inr ⟨A.length + j,1,aEs s,0,.bool true,rfl,by simp; omega,by rw [Abs.getD_append_right (by omega),Nat.add_sub_cancel_left]; exact hg,?_⟩
      exact ⟨B.set j (.row 1 (aEs s) (aEs s).length),by rw [List.set_append_right _ _ (by omega),Nat.add_sub_cancel_left],.inl ⟨h3,ha,rfl⟩⟩
    · exact .inl ⟨B,rfl,.inr h⟩
inductive VE8 where
  | un (u : VU)
  | mk (m f : List UInt8) (l : Nms)
def t8 : VE8 → TypeId
  | .un _=>319
  | .mk _ _ _=>324
def x8 : VE8 → AV
  | .un u=>.agg (uvE u)
  | .mk m f l=>.agg [.str m,.str f,.slice (aEs l)]
def nm8 : VE8 → List UInt8
  | .un u=>u.name
  | .mk m _ _=>m
def r8 (x : VE8) : List AV:=[.iface (t8 x) (x8 x)]
def rs8 (l : List VE8) : List (List AV):=l.map r8
def e80 : VE8:=.mk [] [] []
theorem rs8_length (l : List VE8) : (rs8 l).length = l.length:=by simp [rs8]
theorem rs8_getD {l : List VE8} {i : Nat} (h : i < l.length) : (rs8 l).getD i [] = r8 (l.getD i e80):=by simp [rs8,List.getD,h]
def Of8 (d : DeI) : VE8 → Prop
  | .un u=>isU d = true ∧ UnOf d.un u
  | .mk m f l=>isU d = false ∧ m = d.made ∧ f = d.functor ∧ l = d.args ∧ declB d = true
theorem unOf_true {u : UnI} {x : VU} (h : UnOf u x) : unitB u = true:=by
  rw [unitB_read h.plen h.params h.blen h.body h.flen h.face,h.ordb,h.ordf,h.mod,h.nd]; rfl
theorem of8_decl {d : DeI} {x : VE8} (h : Of8 d x) : declB d = true:=by
  cases x with
  | un u=>rw [declB,if_pos h.1]; exact unOf_true h.2
  | mk m f l=>exact h.2.2.2.2
theorem of8_nm {d : DeI} {x : VE8} (h : Of8 d x) : nm8 x = nmDe d:=by
  cases x with
  | un u=>rw [nmDe,if_pos h.1]; exact h.2.name
  | mk m f l=>obtain ⟨h1,rfl,_⟩:=h; rw [nmDe,if_neg (by rw [h1]; simp)]; rfl
set_option maxRecDepth 100000 in
set_option maxHeartbeats 2000000 in
theorem impl_readDecl (d : DeI) (hd : DeBig d) (A : List Box) : ACalls Tryz.prog 137 [.agg (dE d)] A (fun r A'=>((∃ x,Of8 d x ∧ r = .tuple [.iface (t8 x) (x8 x),.bool true]) ∨ (declB d = false ∧ ∃ c,(c = .nili ∨ ∃ T y,isWhole y = true ∧ c = .iface T y) ∧ r = .tuple [c,.bool false])) ∧ A' = A):=by
  have hru:=fun A=>impl_readUnit d.un hd.1 A
  have hra:=fun A=>impl_readArgs d.args hd.2 A
  have hus:=fun A=>impl_UnitSame0 d.un A
  have hmm:=fun A=>impl_ModuleName d.made A
  have hmf:=fun A=>impl_ModuleName d.functor A
  have hlen : (A ++ [Box.cells (dE d)]).length = A.length + 1:=by simp
  rw [uE] at hru hus
  rw [dE] at hlen ⊢
  cases hu : isU d with
  | true =>
    have hdb : declB d = unitB d.un:=by rw [declB,if_pos hu]
    simp only [isU,Bool.and_eq_true,decide_eq_true_eq] at hu
    obtain ⟨⟨h1,h2⟩,h3⟩:=hu
    have hu : isU d = true:=by simp [isU,h1,h2,h3]
    have h3' : decide ((d.args.length : Int) = 0) = true:=by simp [h3]
    refine acalls_enter (cf:=cf 68 [0,1,2,3,4,5,6,7,21,56]) foll Tryz.func137 Tryz.ntmps137 (by simp [cf]) ?_
    simp only [Tryz.f137,EnterK_some,zW,zX,zD,builtinA,isLeaf,const1,ustrA,simprocAttr,ti3,ti9,ti48,ti80,ti90,ti201,ti319,ti324,ca38,ca128,ca222,ca224,cf,Tryz.results137]
    simp only [zW,zX,zD,builtinA,isLeaf,const1,ustrA,simprocAttr,ti3,ti9,ti48,ti80,ti90,ti201,ti319,ti324,ca38,ca128,ca222,ca224,cf,Tryz.results137,decide_eq_true h1,decide_eq_true h2,aEs_length,h3']
    refine callK_intro (by simp only [zW,zX,zD,builtinA,isLeaf,const1,ustrA,simprocAttr,Option.map_some] <;> rfl) (hru _) ?_ rfl
    rintro r A' ⟨⟨x,hx,rfl⟩ | ⟨hb,c1,c2,c3,rfl⟩,rfl⟩
    · simp only [uvE]
      simp only [zW,zX,zD,builtinA,isLeaf,const1,ustrA,simprocAttr,ti3,ti9,ti48,ti80,ti90,ti201,ti319,ti324,ca38,ca128,ca222,ca224,cf,Tryz.results137]
      exact .inl ⟨.un x,⟨hu,hx⟩,rfl⟩
    · simp only [zW,zX,zD,builtinA,isLeaf,const1,ustrA,simprocAttr,ti3,ti9,ti48,ti80,ti90,ti201,ti319,ti324,ca38,ca128,ca222,ca224,cf,Tryz.results137]
      exact .inr ⟨hdb.trans hb,_,.inr ⟨_,_,rfl,rfl⟩,rfl⟩
  | false =>
    have hdb : declB d = (((((argsB d.args && noU d.un) && moduleB d.made) && moduleB d.functor) && decide (1 ≤ d.args.length)) && decide (d.args.length ≤ 3)):=by rw [declB,if_neg (by rw [hu]; simp)]
    have hcase : ¬ d.made = [] ∨ (d.made = [] ∧ ¬ d.functor = []) ∨ (d.made = [] ∧ d.functor = [] ∧ decide ((d.args.length : Int) = 0) = false):=by
      by_cases h1 : d.made = []
      · by_cases h2 : d.functor = []
        · refine .inr (.inr ⟨h1,h2,decide_eq_false fun h3=>?_⟩)
          have : d.args.length = 0:=by omega
          simp [isU,h1,h2,this] at hu
        · exact .inr (.inl ⟨h1,h2⟩)
      · exact .inl h1
    by_cases hc : d.args.length ≤ 3 ∧ argsB d.args = true
    · have hgd : ∀ A,ACalls Tryz.prog 222 [.slice (aEs d.args),.int .i64 3,.func (.func 223) [] []] A (fun r A'=>∃ B,A' = A ++ B ∧ r = .tuple [.slice (aEs d.args),.bool true]):=fun A=>(hra A).mono fun r A' ⟨B,h1,h2⟩=>by
        rcases h2 with ⟨_,_,h⟩ | ⟨h | h,_⟩
        · exact ⟨B,h1,h⟩
        · exact absurd hc.1 h
        · rw [hc.2] at h; cases h
      have hd2 : declB d = (((noU d.un && moduleB d.made) && moduleB d.functor) && decide (1 ≤ d.args.length)):=by rw [hdb,hc.2,decide_eq_true hc.1]; simp
      by_cases h4 : 1 ≤ d.args.length
      · have h4' : decide ((d.args.length : Int) = 0) = false:=decide_eq_false (by omega)
        rw [decide_eq_true h4,Bool.and_true] at hd2
        refine acalls_enter (cf:=cf 68 [0,1,2,3,4,5,6,7,21,56]) foll Tryz.func137 Tryz.ntmps137 (by simp [cf]) ?_
        simp only [Tryz.f137,EnterK_some,zW,zX,zD,builtinA,isLeaf,const1,ustrA,simprocAttr,ti3,ti9,ti48,ti80,ti90,ti201,ti319,ti324,ca38,ca128,ca222,ca224,cf,Tryz.results137]
        rcases hcase with h1 | ⟨h1,h2⟩ | ⟨h1,h2,h3⟩
        case' inl=>simp only [zW,zX,zD,builtinA,isLeaf,const1,ustrA,simprocAttr,ti3,ti9,ti48,ti80,ti90,ti201,ti319,ti324,ca38,ca128,ca222,ca224,cf,Tryz.results137,decide_eq_false h1]
        case' inr.inl=>simp only [zW,zX,zD,builtinA,isLeaf,const1,ustrA,simprocAttr,ti3,ti9,ti48,ti80,ti90,ti201,ti319,ti324,ca38,ca128,ca222,ca224,cf,Tryz.results137,decide_eq_true h1,decide_eq_false h2]
        case' inr.inr=>simp only [zW,zX,zD,builtinA,isLeaf,const1,ustrA,simprocAttr,ti3,ti9,ti48,ti80,ti90,ti201,ti319,ti324,ca38,ca128,ca222,ca224,cf,Tryz.results137,decide_eq_true h1,decide_eq_true h2,aEs_length,h3]
        all_goals refine callO_intro (hgd _) ?_
        all_goals rintro r A' ⟨B,rfl,rfl⟩
        all_goals simp only [zW,zX,zD,builtinA,isLeaf,const1,ustrA,simprocAttr,ti3,ti9,ti48,ti80,ti90,ti201,ti319,ti324,ca38,ca128,ca222,ca224,cf,Tryz.results137,aEs_length,h4']
        all_goals refine callK_intro (by simp only [zW,zX,zD,builtinA,isLeaf,const1,ustrA,simprocAttr,Option.map_some] <;> rfl) (hmm _) ?_ rfl
        all_goals rintro r A' ⟨rfl,rfl⟩
        all_goals cases hq1 : moduleB d.made
        all_goals simp only [zW,zX,zD,builtinA,isLeaf,const1,ustrA,simprocAttr,ti3,ti9,ti48,ti80,ti90,ti201,ti319,ti324,ca38,ca128,ca222,ca224,cf,Tryz.results137]
        all_goals try exact .inr ⟨by rw [hd2,hq1]; simp,_,.inl rfl,rfl⟩
        all_goals refine callK_intro (by simp only [zW,zX,zD,builtinA,isLeaf,const1,ustrA,simprocAttr,Option.map_some] <;> rfl) (hmf _) ?_ rfl
        all_goals rintro r A' ⟨rfl,rfl⟩
        all_goals cases hq2 : moduleB d.functor
        all_goals simp only [zW,zX,zD,builtinA,isLeaf,const1,ustrA,simprocAttr,ti3,ti9,ti48,ti80,ti90,ti201,ti319,ti324,ca38,ca128,ca222,ca224,cf,Tryz.results137]
        all_goals try exact .inr ⟨by rw [hd2,hq2]; simp,_,.inl rfl,rfl⟩
        all_goals refine .inl ⟨by kernel_rfl,by kernel_rfl,?_⟩
        all_goals refine callD_intro (by simp only [zW,zX,zD,builtinA,isLeaf,const1,ustrA,simprocAttr,Option.map_some] <;> rfl) (hus _) ?_ rfl
        all_goals cases hq3 : noU d.un
        all_goals simp only [zW,zX,zD,builtinA,isLeaf,const1,ustrA,simprocAttr,ti3,ti9,ti48,ti80,ti90,ti201,ti319,ti324,ca38,ca128,ca222,ca224,cf,Tryz.results137]
        all_goals first
          | exact .inr ⟨by rw [hd2,hq3]; simp,_,.inr ⟨_,_,rfl,rfl⟩,rfl⟩
          | exact .inl ⟨.mk d.made d.functor d.args,⟨hu,rfl,rfl,rfl,by rw [hd2,hq1,hq2,hq3]; rfl⟩,rfl⟩
      · have h4' : decide ((d.args.length : Int) = 0) = true:=decide_eq_true (by omega)
        rw [decide_eq_false h4,Bool.and_false] at hd2
        refine acalls_enter (cf:=cf 68 [0,1,2,3,4,5,6,7,21,56]) foll Tryz.func137 Tryz.ntmps137 (by simp [cf]) ?_
        simp only [Tryz.f137,EnterK_some,zW,zX,zD,builtinA,isLeaf,const1,ustrA,simprocAttr,ti3,ti9,ti48,ti80,ti90,ti201,ti319,ti324,ca38,ca128,ca222,ca224,cf,Tryz.results137]
        rcases hcase with h1 | ⟨h1,h2⟩ | ⟨h1,h2,h3⟩
        case' inl=>simp only [zW,zX,zD,builtinA,isLeaf,const1,ustrA,simprocAttr,ti3,ti9,ti48,ti80,ti90,ti201,ti319,ti324,ca38,ca128,ca222,ca224,cf,Tryz.results137,decide_eq_false h1]
        case' inr.inl=>simp only [zW,zX,zD,builtinA,isLeaf,const1,ustrA,simprocAttr,ti3,ti9,ti48,ti80,ti90,ti201,ti319,ti324,ca38,ca128,ca222,ca224,cf,Tryz.results137,decide_eq_true h1,decide_eq_false h2]
        case' inr.inr=>simp only [zW,zX,zD,builtinA,isLeaf,const1,ustrA,simprocAttr,ti3,ti9,ti48,ti80,ti90,ti201,ti319,ti324,ca38,ca128,ca222,ca224,cf,Tryz.results137,decide_eq_true h1,decide_eq_true h2,aEs_length,h3]
        all_goals refine callO_intro (hgd _) ?_
        all_goals rintro r A' ⟨B,rfl,rfl⟩
        all_goals simp only [zW,zX,zD,builtinA,isLeaf,const1,ustrA,simprocAttr,ti3,ti9,ti48,ti80,ti90,ti201,ti319,ti324,ca38,ca128,ca222,ca224,cf,Tryz.results137,aEs_length,h4']
        all_goals exact .inr ⟨hd2,_,.inl rfl,rfl⟩
    · have hgd : ∀ A,ACalls Tryz.prog 222 [.slice (aEs d.args),.int .i64 3,.func (.func 223) [] []] A (fun r A'=>∃ B,A' = A ++ B ∧ r = .tuple [.nils,.bool false]):=fun A=>(hra A).mono fun r A' ⟨B,h1,h2⟩=>by
        rcases h2 with ⟨h,h',_⟩ | ⟨_,h⟩
        · exact absurd ⟨h,h'⟩ hc
        · exact ⟨B,h1,h⟩
      have hd2 : declB d = false:=by
        rw [hdb]
        by_cases h : argsB d.args = true
        · rw [decide_eq_false (fun h'=>hc ⟨h',h⟩)]; simp
        · simp [h]
      refine acalls_enter (cf:=cf 68 [0,1,2,3,4,5,6,7,21,56]) foll Tryz.func137 Tryz.ntmps137 (by simp [cf]) ?_
      simp only [Tryz.f137,EnterK_some,zW,zX,zD,builtinA,isLeaf,const1,ustrA,simprocAttr,ti3,ti9,ti48,ti80,ti90,ti201,ti319,ti324,ca38,ca128,ca222,ca224,cf,Tryz.results137]
      rcases hcase with h1 | ⟨h1,h2⟩ | ⟨h1,h2,h3⟩
      case' inl=>simp only [zW,zX,zD,builtinA,isLeaf,const1,ustrA,simprocAttr,ti3,ti9,ti48,ti80,ti90,ti201,ti319,ti324,ca38,ca128,ca222,ca224,cf,Tryz.results137,decide_eq_false h1]
      case' inr.inl=>simp only [zW,zX,zD,builtinA,isLeaf,const1,ustrA,simprocAttr,ti3,ti9,ti48,ti80,ti90,ti201,ti319,ti324,ca38,ca128,ca222,ca224,cf,Tryz.results137,decide_eq_true h1,decide_eq_false h2]
      case' inr.inr=>simp only [zW,zX,zD,builtinA,isLeaf,const1,ustrA,simprocAttr,ti3,ti9,ti48,ti80,ti90,ti201,ti319,ti324,ca38,ca128,ca222,ca224,cf,Tryz.results137,decide_eq_true h1,decide_eq_true h2,aEs_length,h3]
      all_goals refine callO_intro (hgd _) ?_
      all_goals rintro r A' ⟨B,rfl,rfl⟩
      all_goals simp only [zW,zX,zD,builtinA,isLeaf,const1,ustrA,simprocAttr,ti3,ti9,ti48,ti80,ti90,ti201,ti319,ti324,ca38,ca128,ca222,ca224,cf,Tryz.results137]
      all_goals exact .inr ⟨hd2,_,.inl rfl,rfl⟩
def Reads8 (s : List DeI) (xs : List VE8) : Prop:=xs.length = s.length ∧ ∀ i,i < s.length → Of8 (s.getD i de0) (xs.getD i e80)
theorem r8_step {xs : List VE8} {n : Nat} (y : VE8) (h : xs.length < n) : (rs8 xs ++ List.replicate (n - xs.length) [AV.nili]).set xs.length (AV.iface (t8 y) (x8 y) :: List.drop 1 ((rs8 xs ++ List.replicate (n - xs.length) [AV.nili]).getD xs.length [])) = rs8 (xs ++ [y]) ++ List.replicate (n - (xs.length + 1)) [AV.nili]:=by
  obtain ⟨m,rfl⟩ : ∃ m,n = xs.length + (m + 1):=⟨n - xs.length - 1,by omega⟩
  have e1 : xs.length + (m + 1) - xs.length = m + 1:=by omega
  have e2 : xs.length + (m + 1) - (xs.length + 1) = m:=by omega
  rw [e1,e2,List.replicate_succ]
  have hl:=rs8_length xs
  rw [Abs.getD_append_right (by omega),List.set_append_right _ _ (by omega),hl]
  simp [rs8,r8]
set_option maxRecDepth 100000 in
theorem impl_readEach8 (s : List DeI) (hs : s.length ≤ 1048576) (ho : ∀ d ∈ s,DeBig d) (A : List Box) : ACalls Tryz.prog 174 [.slice (dEs s),.int .i64 8,.func (.func 137) [] []] A (fun r A'=>∃ B,A' = A ++ B ∧
    ((∃ xs j,s.length ≤ 8 ∧ Reads8 s xs ∧ r = .tuple [.own (A.length + j),.bool true] ∧ j < B.length ∧ B.getD j .dead = .row 1 (rs8 xs) 0) ∨ ((8 < s.length ∨ ∃ x ∈ s,declB x = false) ∧ r = .tuple [.nils,.bool false]))):=by
  by_cases h8 : s.length ≤ 8
  · have d1 : decide ((s.length : Int) > 8) = false:=by simp; omega
    have d1' : decide ((8 : Int) < (s.length : Int)) = false:=by simp; omega
    refine acalls_enterK (cf:=cf 41 [0,1,2,6,7,8,9,10,11,12,16,20,21,22,23,34]) foll Tryz.func174 Tryz.ntmps174 (by simp [cf]) ?_
    simp only [Tryz.f174,EnterK_some,zW,zX,zD,builtinA,isLeaf,const1,ustrA,simprocAttr,ti3,ti33,ti90,ti120,ti210,cf,Tryz.results174]
    simp only [zW,zX,zD,builtinA,isLeaf,const1,ustrA,simprocAttr,ti3,ti33,ti90,ti120,ti210,cf,Tryz.results174,dEs_length,d1,d1']
    refine ⟨⟨by omega,by omega,by omega⟩,?_⟩
    refine aloop_intro [2,8,20,21,22] (fun e A'=>∃ i xs B,i ≤ s.length ∧ xs.length = i ∧ (∀ k,k < i → Of8 (s.getD k de0) (xs.getD k e80)) ∧ e = [(2,.func (.func 137) [] []),(8,.own A.length),(20,.slice (dEs s)),(21,.int .i64 s.length),(22,.int .i64 i)] ∧ A' = A ++ (.row 1 (rs8 xs ++ List.replicate (s.length - i) [.nili]) 0 :: B)) (fun e _=>s.length - (intOf (Abs.look 22 e)).toNat) ?_ ?_
    · simp only [zW,zX,zD,builtinA,isLeaf,const1,ustrA,simprocAttr,ti3,ti33,ti90,ti120,ti210,cf,Tryz.results174]
      exact ⟨0,[],[],by omega,rfl,fun k hk=>by omega,rfl,by simp [rs8]⟩
    · rintro e A' ⟨i,xs,B,hi,hyl,hq,rfl,rfl⟩
      by_cases hlt : i < s.length
      · have d2 : decide ((i : Int) < (s.length : Int)) = true:=by simp; omega
        have hlt' : 0 ≤ (i : Int) ∧ (i : Int) < (s.length : Int):=by omega
        have hg:=dEs_getD hlt
        have hmem:=de_mem hlt
        have hi1 : IntKind.i64.wrap ((i : Int) + 1) = ((i + 1 : Nat) : Int):=by rw [wrap64 (by omega) (by omega)]; rfl
        have hri:=fun A=>impl_readDecl (s.getD i de0) (ho _ hmem) A
        have hdl:=dE_length (s.getD i de0)
        have hdt:=dE_take (s.getD i de0)
        have hdf:=fun A=>frzL_dE (s.getD i de0) A
        generalize hx : s.getD i de0 = x at *
        generalize dE x = xe at *
        simp only [zW,zX,zD,builtinA,isLeaf,const1,ustrA,simprocAttr,ti3,ti33,ti90,ti120,ti210,cf,Tryz.results174,dEs_length,d2,hg,hdl,hdt]
        refine ⟨hlt',?_⟩
        refine wpO_callv _ _ _ _ _ _ _ _ _ _ _ _ _ _ _ ?_
        simp only [zW,zX,zD,builtinA,isLeaf,const1,ustrA,simprocAttr,ti3,ti33,ti90,ti120,ti210,cf,Tryz.results174,hdl,hdt]
        refine ⟨by kernel_rfl,?_⟩
        refine callK_intro (by simp only [zW,zX,zD,builtinA,isLeaf,const1,ustrA,simprocAttr,hdf,Option.map_some,List.nil_append,List.append_nil]; rfl) (hri _) ?_ rfl
        rintro r A' ⟨h,rfl⟩
        rcases h with ⟨y,hit,rfl⟩ | ⟨hbad,c,hc,rfl⟩
        · have hst:=r8_step (xs:=xs) (n:=s.length) y (by omega)
          have hlen : (rs8 xs).length + (List.replicate (s.length - i) [AV.nili]).length = s.length:=by simp [rs8_length]; omega
          subst hyl
          simp only [zW,zX,zD,builtinA,isLeaf,const1,ustrA,simprocAttr,ti3,ti33,ti90,ti120,ti210,cf,Tryz.results174,hlen,rs8_length,hst,hi1,LoopK_eq]
          refine ⟨⟨by omega,by simp; omega⟩,⟨by omega,by simp; omega,fun v hv=>?_⟩,⟨xs.length + 1,xs ++ [y],_,by omega,by simp,fun k hk=>?_,rfl,rfl⟩,?_⟩
          · simp only [List.mem_singleton] at hv
            subst hv
            rfl
          · rcases Nat.lt_succ_iff_lt_or_eq.mp hk with h | rfl
            · have : (xs ++ [y]).getD k e80 = xs.getD k e80:=by simp [List.getD,List.getElem?_append_left h]
              rw [this]
              exact hq k h
            · rw [hx]
              have : (xs ++ [y]).getD xs.length e80 = y:=by simp [List.getD]
              rw [this]
              exact hit
          · simp only [intOf]; omega
        · rcases hc with rfl | ⟨T,y,hy,rfl⟩
          · simp only [zW,zX,zD,builtinA,isLeaf,const1,ustrA,simprocAttr,ti3,ti33,ti90,ti120,ti210,cf,Tryz.results174]
            exact ⟨_,rfl,.inr (.inr ⟨x,hmem,hbad⟩)⟩
          · simp only [zW,zX,zD,builtinA,isLeaf,const1,ustrA,simprocAttr,ti3,ti33,ti90,ti120,ti210,cf,Tryz.results174]
            exact ⟨_,rfl,.inr (.inr ⟨x,hmem,hbad⟩)⟩
      · have d2 : decide ((i : Int) < (s.length : Int)) = false:=by simp; omega
        have e : xs.length = s.length:=by omega
        subst hyl
        have hz : List.replicate (s.length - xs.length) [AV.nili] = []:=by rw [e]; simp
        rw [hz,List.append_nil]
        simp only [zW,zX,zD,builtinA,isLeaf,const1,ustrA,simprocAttr,ti3,ti33,ti90,ti120,ti210,cf,Tryz.results174,dEs_length,d2]
        exact ⟨_,rfl,.inl ⟨xs,0,h8,⟨e,fun k hk=>hq k (by omega)⟩,rfl,by simp,rfl⟩⟩
  · have d1 : decide ((s.length : Int) > 8) = true:=by simp; omega
    have d1' : decide ((8 : Int) < (s.length : Int)) = true:=by simp; omega
    refine acalls_enterK (cf:=cf 41 [0,1,2,6,7,8,9,10,11,12,16,20,21,22,23,34]) foll Tryz.func174 Tryz.ntmps174 (by simp [cf]) ?_
    simp only [Tryz.f174,EnterK_some,zW,zX,zD,builtinA,isLeaf,const1,ustrA,simprocAttr,ti3,ti33,ti90,ti120,ti210,cf,Tryz.results174]
    simp only [zW,zX,zD,builtinA,isLeaf,const1,ustrA,simprocAttr,ti3,ti33,ti90,ti120,ti210,cf,Tryz.results174,dEs_length,d1,d1']
    exact ⟨[],by simp,.inr (.inl (by omega))⟩
theorem impl_readDecls (s : List DeI) (hs : s.length ≤ 1048576) (ho : ∀ d ∈ s,DeBig d) (A : List Box) : ACalls Tryz.prog 174 [.slice (dEs s),.int .i64 8,.func (.func 137) [] []] A (fun r A'=>∃ B,A' = A ++ B ∧
    ((∃ xs,s.length ≤ 8 ∧ Reads8 s xs ∧ r = .tuple [.slice (rs8 xs),.bool true]) ∨ ((8 < s.length ∨ ∃ x ∈ s,declB x = false) ∧ r = .tuple [.nils,.bool false]))) :=
  ACalls.shut (impl_readEach8 s hs ho A) fun r A' ⟨B,hA,h⟩=>by
    subst hA
    rcases h with ⟨xs,j,h3,ha,rfl,hj,hg⟩ | h
    · refine .inr ⟨A.length + j,1,rs8 xs,0,.bool true,rfl,by simp; omega,by rw [Abs.getD_append_right (by omega),Nat.add_sub_cancel_left]; exact hg,?_⟩
      exact ⟨B.set j (.row 1 (rs8 xs) (rs8 xs).length),by rw [List.set_append_right _ _ (by omega),Nat.add_sub_cancel_left],.inl ⟨xs,h3,ha,rfl⟩⟩
    · exact .inl ⟨B,rfl,.inr h⟩
set_option maxRecDepth 100000 in
theorem un_defines (u : VU) (A : List Box) : ACalls Tryz.prog 377 [.agg (uvE u)] A (fun r A'=>r = .str u.name ∧ A' = A):=by
  rw [uvE]
  refine acalls_enter (cf:=cf 6 [0,1,2]) foll Tryz.func377 Tryz.ntmps377 (by simp [cf]) ?_
  simp only [Tryz.f377,EnterK_some,zW,zX,zD,builtinA,isLeaf,const1,ustrA,simprocAttr,ti9,ti201,ti319,cf,Tryz.results377]
set_option maxRecDepth 100000 in
theorem mk_defines (m f : List UInt8) (l : Nms) (A : List Box) : ACalls Tryz.prog 385 [.agg [.str m,.str f,.slice (aEs l)]] A (fun r A'=>r = .str m ∧ A' = A):=by
  refine acalls_enter (cf:=cf 5 [0,1,2]) foll Tryz.func385 Tryz.ntmps385 (by simp [cf]) ?_
  simp only [Tryz.f385,EnterK_some,zW,zX,zD,builtinA,isLeaf,const1,ustrA,simprocAttr,ti9,ti324,cf,Tryz.results385]
def nms8 (l : List VE8) : List (List UInt8):=l.map nm8
theorem e8_drop {l : List VE8} {i : Nat} (h : i < l.length) : l.drop i = l.getD i e80 :: l.drop (i + 1):=by
  have : l.getD i e80 = l[i]:=by simp [List.getD,h]
  rw [this,List.getElem_cons_drop h]
set_option maxRecDepth 100000 in
set_option maxHeartbeats 1000000 in
theorem impl_namesDiffer8 (xs : List VE8) (hxs : xs.length ≤ 1000) (v : AV) (hv : isLeaf v = true) (A : List Box) : ACalls Tryz.prog 175 [.agg [.slice (rs8 xs),v]] A (fun r A'=>r = .bool (ndB [] (nms8 xs)) ∧ A' = A):=by
  have hcl : ∀ (A' : List Box),A'.take A.length = A → A.length + 1 < A'.length → Outer A A':=fun A' h1 h2=>outer_take h1 (by omega)
  refine acalls_enter (cf:=cf 20 [0,1,2,3,5,8,9,10,11,18]) foll Tryz.func175 Tryz.ntmps175 (by simp [cf]) ?_
  simp only [Tryz.f175,EnterK_some,zW,zX,zD,builtinA,isLeaf,const1,ustrA,simprocAttr,ti3,ti120,ti124,ti143,ti210,ca244,cf,Tryz.results175]
  refine aloop_intro [3,8,9,10] (fun e A'=>∃ i ks,i ≤ xs.length ∧ ndB [] (nms8 xs) = ndB ks (nms8 (xs.drop i)) ∧ e = [(3,.map (A.length + 1)),(8,.slice (rs8 xs)),(9,.int .i64 xs.length),(10,.int .i64 i)] ∧ A'.take A.length = A ∧ A.length + 1 < A'.length ∧ A'.getD (A.length + 1) .dead = .mapb (esN ks)) (fun e _=>xs.length - (intOf (Abs.look 10 e)).toNat) ?_ ?_
  · simp only [zW,zX,zD,builtinA,isLeaf,const1,ustrA,simprocAttr,ti3,ti120,ti124,ti143,ti210,ca244,cf,Tryz.results175,rs8_length]
    refine ⟨0,[],by omega,by rw [List.drop_zero],rfl,?_⟩
    first
      | rfl
      | exact ⟨by omega,rfl⟩
      | exact ⟨by simp,by simp,rfl⟩
      | simp [esN]
  · rintro e A' ⟨i,ks,hi,hq,rfl,ht,hl,hb⟩
    by_cases hlt : i < xs.length
    · have d1 : decide ((i : Int) < (xs.length : Int)) = true:=by simp; omega
      have hlt' : 0 ≤ (i : Int) ∧ (i : Int) < (xs.length : Int):=by omega
      have hg:=rs8_getD hlt
      rw [e8_drop hlt] at hq
      have hi1 : IntKind.i64.wrap ((i : Int) + 1) = ((i + 1 : Nat) : Int):=by rw [wrap64 (by omega) (by omega)]; rfl
      generalize xs.getD i e80 = y at *
      simp only [nms8,List.map_cons,ndB] at hq
      obtain ⟨nm,hnm⟩ : ∃ nm,nm = nm8 y:=⟨_,rfl⟩
      rw [← hnm] at hq
      have hdf:=impl_define (A.length + 1) ks nm A' hl hb
      rw [r8] at hg
      have k1 : ∀ ks',(A'.set (A.length + 1) (.mapb (esN ks'))).take A.length = A:=fun ks'=>by
        rw [List.take_set_of_le (by omega)]; exact ht
      have k2 : ∀ ks',A.length + 1 < (A'.set (A.length + 1) (.mapb (esN ks'))).length:=fun ks'=>by simp; omega
      have k3 : ∀ ks',(A'.set (A.length + 1) (.mapb (esN ks'))).getD (A.length + 1) .dead = .mapb (esN ks'):=fun ks'=>getD_set_self (by omega)
      cases y with
      | un u =>
        have hd:=un_defines u A'
        have e : nm = u.name:=hnm
        clear hnm
        subst e
        simp only [t8,x8] at hg
        simp only [zW,zX,zD,builtinA,isLeaf,const1,ustrA,simprocAttr,ti3,ti120,ti124,ti143,ti210,ca244,cf,Tryz.results175,rs8_length,d1,hg]
        refine ⟨hlt',?_⟩
        refine wpO_invoke _ _ _ _ _ _ _ _ _ _ _ _ _ _ _ _ ?_
        simp only [zW,zX,zD,builtinA,isLeaf,const1,ustrA,simprocAttr,ti3,ti120,ti124,ti143,ti210,ca244,cf,Tryz.results175]
        refine ⟨377,by kernel_rfl,by kernel_rfl,callO_intro hd ?_⟩
        rintro r A2 ⟨rfl,hA2⟩
        subst hA2
        simp only [zW,zX,zD,builtinA,isLeaf,const1,ustrA,simprocAttr,ti3,ti120,ti124,ti143,ti210,ca244,cf,Tryz.results175]
        refine callO_intro hdf ?_
        rintro r A2 ⟨rfl,ks',rfl,hks⟩
        by_cases hm : u.name ∈ ks
        · rw [decide_eq_true hm,Bool.not_true,Bool.false_and] at hq
          simp only [zW,zX,zD,builtinA,isLeaf,const1,ustrA,simprocAttr,ti3,ti120,ti124,ti143,ti210,ca244,cf,Tryz.results175,decide_eq_true hm]
          exact ⟨hcl _ (k1 _) (k2 _),by rw [nms8,hq],k1 _⟩
        · rw [decide_eq_false hm,Bool.not_false,Bool.true_and] at hq
          have hk:=hks hm
          subst hk
          simp only [zW,zX,zD,builtinA,isLeaf,const1,ustrA,simprocAttr,ti3,ti120,ti124,ti143,ti210,ca244,cf,Tryz.results175,decide_eq_false hm,hi1,LoopK_eq]
          refine ⟨⟨i + 1,_,by omega,hq,rfl,k1 _,?_⟩,?_⟩
          · first
              | exact k3 _
              | exact ⟨k2 _,k3 _⟩
              | exact ⟨hl,k3 _⟩
              | (have q2:=k2 (ks ++ [u.name]); have q3:=k3 (ks ++ [u.name]); simp at q2 q3 ⊢; exact ⟨by omega,q3⟩)
          · simp only [intOf]; omega
      | mk m f l =>
        have e : m = nm:=hnm.symm
        clear hnm
        subst e
        have hd:=mk_defines m f l A'
        simp only [t8,x8] at hg
        simp only [zW,zX,zD,builtinA,isLeaf,const1,ustrA,simprocAttr,ti3,ti120,ti124,ti143,ti210,ca244,cf,Tryz.results175,rs8_length,d1,hg]
        refine ⟨hlt',?_⟩
        refine wpO_invoke _ _ _ _ _ _ _ _ _ _ _ _ _ _ _ _ ?_
        simp only [zW,zX,zD,builtinA,isLeaf,const1,ustrA,simprocAttr,ti3,ti120,ti124,ti143,ti210,ca244,cf,Tryz.results175]
        refine ⟨385,by kernel_rfl,by kernel_rfl,callO_intro hd ?_⟩
        rintro r A2 ⟨rfl,hA2⟩
        subst hA2
        simp only [zW,zX,zD,builtinA,isLeaf,const1,ustrA,simprocAttr,ti3,ti120,ti124,ti143,ti210,ca244,cf,Tryz.results175]
        refine callO_intro hdf ?_
        rintro r A2 ⟨rfl,ks',rfl,hks⟩
        by_cases hm : m ∈ ks
        · rw [decide_eq_true hm,Bool.not_true,Bool.false_and] at hq
          simp only [zW,zX,zD,builtinA,isLeaf,const1,ustrA,simprocAttr,ti3,ti120,ti124,ti143,ti210,ca244,cf,Tryz.results175,decide_eq_true hm]
          exact ⟨hcl _ (k1 _) (k2 _),by rw [nms8,hq],k1 _⟩
        · rw [decide_eq_false hm,Bool.not_false,Bool.true_and] at hq
          have hk:=hks hm
          subst hk
          simp only [zW,zX,zD,builtinA,isLeaf,const1,ustrA,simprocAttr,ti3,ti120,ti124,ti143,ti210,ca244,cf,Tryz.results175,decide_eq_false hm,hi1,LoopK_eq]
          refine ⟨⟨i + 1,_,by omega,hq,rfl,k1 _,?_⟩,?_⟩
          · first
              | exact k3 _
              | exact ⟨k2 _,k3 _⟩
              | exact ⟨hl,k3 _⟩
              | (have q2:=k2 (ks ++ [m]); have q3:=k3 (ks ++ [m]); simp at q2 q3 ⊢; exact ⟨by omega,q3⟩)
          · simp only [intOf]; omega
    · have d1 : decide ((i : Int) < (xs.length : Int)) = false:=by simp; omega
      have e : i = xs.length:=by omega
      subst e
      rw [List.drop_length] at hq
      simp only [zW,zX,zD,builtinA,isLeaf,const1,ustrA,simprocAttr,ti3,ti120,ti124,ti143,ti210,ca244,cf,Tryz.results175,rs8_length,d1]
      exact ⟨hcl _ ht hl,by rw [hq]; rfl,ht⟩
end Go.Proofs.YtnjdbgiincliaaaGreat
/- The program's reading of programs, and its ProgramValid. -/
set_option linter.unusedVariables false
set_option linter.unusedSimpArgs false
namespace Go.Proofs.YtnjdbgiincliaaaGreat
open Go.Abs
structure V8 where
  decls : List VE8
  main : VE
def v8E (x : V8) : List AV:=[.slice (rs8 x.decls),ifE x.main]
structure Pr8 (p : PrI) (x : V8) : Prop where
  len : p.decls.length ≤ 8
  decls : Reads8 p.decls x.decls
  main : p.main = toX x.main
  ok : EOk x.main
  nd : ndB [] (nms8 x.decls) = true
theorem nms8_eq {s : List DeI} {xs : List VE8} (h : Reads8 s xs) : nms8 xs = nmDs s:=by
  refine List.ext_getElem (by simp [nms8,nmDs,h.1]) fun i h1 h2=>?_
  have hi : i < s.length:=by simpa [nmDs] using h2
  have hm : i < xs.length:=by simpa [nms8] using h1
  have:=of8_nm (h.2 i hi)
  simp only [nms8,nmDs,List.getElem_map]
  simpa [List.getD,hi,hm] using this
theorem ndN_iff : ∀ (ps : List DeI) (set : List (List UInt8)),ndB set (nmDs ps) = true ↔ ∀ i,i < ps.length → nmDe (ps.getD i de0) ∉ set ∧ nmDe (ps.getD i de0) ∉ nmDs (ps.take i)
  | [],set=>by simp [ndB,nmDs]
  | p :: ps,set=>by
    have ih:=ndN_iff ps (set ++ [nmDe p])
    simp only [nmDs,List.map_cons,ndB,Bool.and_eq_true,Bool.not_eq_true',decide_eq_false_iff_not] at ih ⊢
    rw [ih]
    constructor
    · rintro ⟨h1,h2⟩ i hi
      cases i with
      | zero=>exact ⟨h1,by simp⟩
      | succ i =>
        have:=h2 i (by simpa using hi)
        simp only [List.getD_cons_succ,List.take_succ_cons,List.map_cons,List.mem_cons,not_or]
        simp only [List.mem_append,List.mem_singleton,not_or] at this
        exact ⟨this.1.1,this.1.2,this.2⟩
    · intro h
      refine ⟨(h 0 (by simp)).1,fun i hi=>?_⟩
      have:=h (i + 1) (by simpa using hi)
      simp only [List.getD_cons_succ,List.take_succ_cons,List.map_cons,List.mem_cons,not_or] at this
      simp only [List.mem_append,List.mem_singleton,not_or]
      exact ⟨⟨this.1,this.2.1⟩,this.2.2⟩
theorem progB_read {p : PrI} {xs : List VE8} (h8 : p.decls.length ≤ 8) (hr : Reads8 p.decls xs) : progB p = (ndB [] (nms8 xs) && validX p.main):=by
  have hd : ∀ i,i < p.decls.length → declB (p.decls.getD i de0) = true:=fun i hi=>of8_decl (hr.2 i hi)
  rw [nms8_eq hr]
  cases hn : ndB [] (nmDs p.decls) with
  | true =>
    have h:=(ndN_iff p.decls []).1 hn
    rw [progB_yes fun i hi=>by rw [hd i hi,decide_eq_false (h i hi).2]; rfl,decide_eq_true h8]
  | false =>
    have h : ¬ ∀ i,i < p.decls.length → nmDe (p.decls.getD i de0) ∉ nmDs (p.decls.take i):=fun h=>by
      have:=(ndN_iff p.decls []).2 fun i hi=>⟨by simp,h i hi⟩
      rw [hn] at this; cases this
    obtain ⟨i,h⟩:=Classical.not_forall.1 h
    obtain ⟨hi,h⟩:=Classical.not_imp.1 h
    rw [progB_no hi (by rw [decide_eq_true (Classical.not_not.1 h)]; simp)]
    rfl
theorem progB_bad {p : PrI} (h : 8 < p.decls.length ∨ ∃ x ∈ p.decls,declB x = false) : progB p = false:=by
  rcases h with h | ⟨x,hx,h⟩
  · unfold progB; rw [decide_eq_false (by omega : ¬ p.decls.length ≤ 8)]; simp
  · obtain ⟨k,hk,rfl⟩:=List.mem_iff_getElem.1 hx
    refine progB_no hk ?_
    rw [show p.decls.getD k de0 = p.decls[k] by simp [List.getD,hk],h]; rfl
theorem progB_main {p : PrI} (h : validX p.main = false) : progB p = false:=by unfold progB; rw [h]; simp
theorem pr8_true {p : PrI} {x : V8} (h : Pr8 p x) : progB p = true:=by
  rw [progB_read h.len h.decls,h.nd,h.main,validX_toX h.ok]; rfl
set_option maxRecDepth 100000 in
set_option maxHeartbeats 4000000 in
theorem impl_readProgram (p : PrI) (hp : PrBig p) (A : List Box) : ACalls Tryz.prog 82 [.agg (gE p)] A (fun r A'=>((∃ x,Pr8 p x ∧ r = .tuple [.agg (v8E x),.bool true]) ∨ (progB p = false ∧ ∃ c1 c2,isLeaf c2 = true ∧ r = .tuple [.agg [.slice c1,c2],.bool false])) ∧ A' = A):=by
  obtain ⟨⟨hd1,hd2⟩,hm1,hm2⟩:=hp
  have hxe:=impl_readExpr2 p.main hm2
  have hxl:=encX_length p.main
  have hxt:=encX_take p.main
  have hxf:=fun A=>frzL_encX p.main A
  have hre:=impl_readDecls p.decls hd1 hd2 (A ++ [.cells (gE p),.cells [.nils,.nili]])
  have hlen : (A ++ [Box.cells (gE p),.cells [.nils,.nili]]).length = A.length + 2:=by simp
  rw [gE] at hre hlen ⊢
  simp only [ifE] at hxe
  generalize encX p.main = xm at *
  have hx0 : 0 < xm.length + 1:=by omega
  refine acalls_enter (cf:=cf 33 [0,1,2,3,4,5,6,7,8]) foll Tryz.func82 Tryz.ntmps82 (by simp [cf]) ?_
  simp only [Tryz.f82,EnterK_some,zW,zX,zD,builtinA,isLeaf,const1,ustrA,simprocAttr,ti33,ti39,ti41,ti90,ti124,ca143,ca174,ca175,cf,Tryz.results82]
  simp only [zW,zX,zD,builtinA,isLeaf,const1,ustrA,simprocAttr,ti33,ti39,ti41,ti90,ti124,ca143,ca174,ca175,cf,Tryz.results82,hx0]
  refine callO_intro hre ?_
  rintro r A' ⟨B,rfl,⟨xs,h8,hrd,rfl⟩ | ⟨hbad,rfl⟩⟩
  · have hpb:=progB_read h8 hrd
    have hxl8:=hrd.1
    simp only [zW,zX,zD,builtinA,isLeaf,const1,ustrA,simprocAttr,ti33,ti39,ti41,ti90,ti124,ca143,ca174,ca175,cf,Tryz.results82,hx0,hxl,hxt]
    refine callK_intro (by simp only [zW,zX,zD,builtinA,isLeaf,const1,ustrA,simprocAttr,hxf,Option.map_some] <;> rfl) (hxe _) ?_ rfl
    rintro r A' ⟨⟨v,hv1,hv2,rfl⟩ | ⟨hv,w,hw,rfl⟩,rfl⟩
    · have hvx : validX p.main = true:=by rw [hv1,validX_toX hv2]
      rw [hvx,Bool.and_true] at hpb
      have hnd:=fun A=>impl_namesDiffer8 xs (by omega) (.iface (vtE v) (vxE v)) (by cases v <;> rfl) A
      simp only [zW,zX,zD,builtinA,isLeaf,const1,ustrA,simprocAttr,ti33,ti39,ti41,ti90,ti124,ca143,ca174,ca175,cf,Tryz.results82]
      refine .inr (drawE_intro [(false,0,0),(false,0,0),(false,0,0),(false,0,0),(false,0,0),(false,0,0),(false,0,0),(false,0,0),(false,0,1),(true,0,0),(false,1,1)] [A ++ (Box.cells (.slice (dEs p.decls) :: xm) :: Box.cells [.nils,.nili] :: (B ++ [Box.cells [.slice (rs8 xs),.iface (vtE v) (vxE v)]])),A ++ (Box.cells (.slice (dEs p.decls) :: xm) :: Box.cells [.slice (rs8 xs),.iface (vtE v) (vxE v)] :: (B ++ [Box.cells [.slice (rs8 xs),.iface (vtE v) (vxE v)]]))] 1 rfl (by kernel_rfl) (by kernel_rfl) (by kernel_rfl) (by kernel_rfl) (by kernel_rfl) (by kernel_rfl) ?_)
      simp only [zW,zX,zD,builtinA,isLeaf,const1,ustrA,simprocAttr,ti33,ti39,ti41,ti90,ti124,ca143,ca174,ca175,cf,Tryz.results82]
      refine callEN_intro (fun A=>by simp only [zW,zX,zD,builtinA,isLeaf,const1,ustrA,simprocAttr,Option.map_some] <;> rfl) (fun A=>hnd A) ?_ rfl rfl
      cases hq : ndB [] (nms8 xs) with
      | true =>
        simp only [zW,zX,zD,builtinA,isLeaf,const1,ustrA,simprocAttr,ti33,ti39,ti41,ti90,ti124,ca143,ca174,ca175,cf,Tryz.results82]
        exact .inl ⟨⟨xs,v⟩,⟨h8,hrd,hv1,hv2,hq⟩,rfl⟩
      | false =>
        simp only [zW,zX,zD,builtinA,isLeaf,const1,ustrA,simprocAttr,ti33,ti39,ti41,ti90,ti124,ca143,ca174,ca175,cf,Tryz.results82]
        exact .inr ⟨hpb.trans hq,_,_,by cases v <;> rfl,rfl⟩
    · have hpf:=progB_main hv
      rcases hw with rfl | ⟨T,y,rfl⟩
      · simp only [zW,zX,zD,builtinA,isLeaf,const1,ustrA,simprocAttr,ti33,ti39,ti41,ti90,ti124,ca143,ca174,ca175,cf,Tryz.results82]
        refine .inr (drawE_intro [(false,0,0),(false,0,0),(false,0,0),(false,0,0),(false,0,0),(false,0,0),(false,0,0),(false,0,0),(false,0,1),(true,0,0),(false,1,1)] [A ++ (Box.cells (.slice (dEs p.decls) :: xm) :: Box.cells [.nils,.nili] :: (B ++ [Box.cells [.slice (rs8 xs),.nili]])),A ++ (Box.cells (.slice (dEs p.decls) :: xm) :: Box.cells [.slice (rs8 xs),.nili] :: (B ++ [Box.cells [.slice (rs8 xs),.nili]]))] 1 rfl (by kernel_rfl) (by kernel_rfl) (by kernel_rfl) (by kernel_rfl) (by kernel_rfl) (by kernel_rfl) ?_)
        simp only [zW,zX,zD,builtinA,isLeaf,const1,ustrA,simprocAttr,ti33,ti39,ti41,ti90,ti124,ca143,ca174,ca175,cf,Tryz.results82]
        repeat' (first | refine And.intro (skz_of rfl) ?_ | refine And.intro (skz_same rfl rfl) ?_)
        exact .inr ⟨hpf,_,_,rfl,rfl⟩
      · simp only [zW,zX,zD,builtinA,isLeaf,const1,ustrA,simprocAttr,ti33,ti39,ti41,ti90,ti124,ca143,ca174,ca175,cf,Tryz.results82]
        refine .inr (drawE_intro [(false,0,0),(false,0,0),(false,0,0),(false,0,0),(false,0,0),(false,0,0),(false,0,0),(false,0,0),(false,0,1),(true,0,0),(false,1,1)] [A ++ (Box.cells (.slice (dEs p.decls) :: xm) :: Box.cells [.nils,.nili] :: (B ++ [Box.cells [.slice (rs8 xs),.iface T y]])),A ++ (Box.cells (.slice (dEs p.decls) :: xm) :: Box.cells [.slice (rs8 xs),.iface T y] :: (B ++ [Box.cells [.slice (rs8 xs),.iface T y]]))] 1 rfl (by kernel_rfl) (by kernel_rfl) (by kernel_rfl) (by kernel_rfl) (by kernel_rfl) (by kernel_rfl) ?_)
        simp only [zW,zX,zD,builtinA,isLeaf,const1,ustrA,simprocAttr,ti33,ti39,ti41,ti90,ti124,ca143,ca174,ca175,cf,Tryz.results82]
        repeat' (first | refine And.intro (skz_of rfl) ?_ | refine And.intro (skz_same rfl rfl) ?_)
        exact .inr ⟨hpf,_,_,rfl,rfl⟩
  · have hpf:=progB_bad hbad
    simp only [zW,zX,zD,builtinA,isLeaf,const1,ustrA,simprocAttr,ti33,ti39,ti41,ti90,ti124,ca143,ca174,ca175,cf,Tryz.results82,hx0,hxl,hxt]
    refine callK_intro (by simp only [zW,zX,zD,builtinA,isLeaf,const1,ustrA,simprocAttr,hxf,Option.map_some] <;> rfl) (hxe _) ?_ rfl
    rintro r A' ⟨⟨v,hv1,hv2,rfl⟩ | ⟨hv,w,hw,rfl⟩,rfl⟩
    · simp only [zW,zX,zD,builtinA,isLeaf,const1,ustrA,simprocAttr,ti33,ti39,ti41,ti90,ti124,ca143,ca174,ca175,cf,Tryz.results82]
      refine .inr (drawE_intro [(false,0,0),(false,0,0),(false,0,0),(false,0,0),(false,0,0),(false,0,0),(false,0,0),(false,0,0),(false,0,1),(true,0,0),(false,1,1)] [A ++ (Box.cells (.slice (dEs p.decls) :: xm) :: Box.cells [.nils,.nili] :: (B ++ [Box.cells [.nils,.iface (vtE v) (vxE v)]])),A ++ (Box.cells (.slice (dEs p.decls) :: xm) :: Box.cells [.nils,.iface (vtE v) (vxE v)] :: (B ++ [Box.cells [.nils,.iface (vtE v) (vxE v)]]))] 1 rfl (by kernel_rfl) (by kernel_rfl) (by kernel_rfl) (by kernel_rfl) (by kernel_rfl) (by kernel_rfl) ?_)
      simp only [zW,zX,zD,builtinA,isLeaf,const1,ustrA,simprocAttr,ti33,ti39,ti41,ti90,ti124,ca143,ca174,ca175,cf,Tryz.results82]
      repeat' (first | refine And.intro (skz_of rfl) ?_ | refine And.intro (skz_same rfl rfl) ?_)
      exact .inr ⟨hpf,_,_,by cases v <;> rfl,rfl⟩
    · rcases hw with rfl | ⟨T,y,rfl⟩
      · simp only [zW,zX,zD,builtinA,isLeaf,const1,ustrA,simprocAttr,ti33,ti39,ti41,ti90,ti124,ca143,ca174,ca175,cf,Tryz.results82]
        refine .inr (drawE_intro [(false,0,0),(false,0,0),(false,0,0),(false,0,0),(false,0,0),(false,0,0),(false,0,0),(false,0,0),(false,0,1),(true,0,0),(false,1,1)] [A ++ (Box.cells (.slice (dEs p.decls) :: xm) :: Box.cells [.nils,.nili] :: (B ++ [Box.cells [.nils,.nili]])),A ++ (Box.cells (.slice (dEs p.decls) :: xm) :: Box.cells [.nils,.nili] :: (B ++ [Box.cells [.nils,.nili]]))] 1 rfl (by kernel_rfl) (by kernel_rfl) (by kernel_rfl) (by kernel_rfl) (by kernel_rfl) (by kernel_rfl) ?_)
        simp only [zW,zX,zD,builtinA,isLeaf,const1,ustrA,simprocAttr,ti33,ti39,ti41,ti90,ti124,ca143,ca174,ca175,cf,Tryz.results82]
        repeat' (first | refine And.intro (skz_of rfl) ?_ | refine And.intro (skz_same rfl rfl) ?_)
        exact .inr ⟨hpf,_,_,rfl,rfl⟩
      · simp only [zW,zX,zD,builtinA,isLeaf,const1,ustrA,simprocAttr,ti33,ti39,ti41,ti90,ti124,ca143,ca174,ca175,cf,Tryz.results82]
        refine .inr (drawE_intro [(false,0,0),(false,0,0),(false,0,0),(false,0,0),(false,0,0),(false,0,0),(false,0,0),(false,0,0),(false,0,1),(true,0,0),(false,1,1)] [A ++ (Box.cells (.slice (dEs p.decls) :: xm) :: Box.cells [.nils,.nili] :: (B ++ [Box.cells [.nils,.iface T y]])),A ++ (Box.cells (.slice (dEs p.decls) :: xm) :: Box.cells [.nils,.iface T y] :: (B ++ [Box.cells [.nils,.iface T y]]))] 1 rfl (by kernel_rfl) (by kernel_rfl) (by kernel_rfl) (by kernel_rfl) (by kernel_rfl) (by kernel_rfl) ?_)
        simp only [zW,zX,zD,builtinA,isLeaf,const1,ustrA,simprocAttr,ti33,ti39,ti41,ti90,ti124,ca143,ca174,ca175,cf,Tryz.results82]
        repeat' (first | refine And.intro (skz_of rfl) ?_ | refine And.intro (skz_same rfl rfl) ?_)
        exact .inr ⟨hpf,_,_,rfl,rfl⟩
set_option maxRecDepth 100000 in
theorem impl_ProgramValid (p : PrI) (hp : PrBig p) (A : List Box) : ACalls Tryz.prog 18 [.agg (gE p)] A (fun r A'=>r = .bool (progB p) ∧ A' = A):=by
  have hr:=fun A=>impl_readProgram p hp A
  have hxl:=gE_length p
  have hxt:=gE_take p
  have hxf:=fun A=>frzL_gE p A
  generalize gE p = xm at *
  refine acalls_enter (cf:=cf 11 [0,1,2,4]) foll Tryz.func18 Tryz.ntmps18 (by simp [cf]) ?_
  simp only [Tryz.f18,EnterK_some,zW,zX,zD,builtinA,isLeaf,const1,ustrA,simprocAttr,ti41,ti124,ca82,cf,Tryz.results18]
  simp only [zW,zX,zD,builtinA,isLeaf,const1,ustrA,simprocAttr,ti41,ti124,ca82,cf,Tryz.results18,hxl,hxt]
  refine callK_intro (by simp only [zW,zX,zD,builtinA,isLeaf,const1,ustrA,simprocAttr,hxf,Option.map_some] <;> rfl) (hr _) ?_ rfl
  rintro r A' ⟨⟨x,hx,rfl⟩ | ⟨hb,c1,c2,hl,rfl⟩,rfl⟩
  · rw [pr8_true hx]
    simp only [v8E,ifE]
    simp only [zW,zX,zD,builtinA,isLeaf,const1,ustrA,simprocAttr,ti41,ti124,ca82,cf,Tryz.results18]
  · rw [hb]
    simp only [zW,zX,zD,builtinA,isLeaf,const1,ustrA,simprocAttr,ti41,ti124,ca82,cf,Tryz.results18]
end Go.Proofs.YtnjdbgiincliaaaGreat
/- Arguments of a law are small enough. -/
set_option linter.unusedVariables false
set_option linter.unusedSimpArgs false
namespace Go.Proofs.YtnjdbgiincliaaaGreat
open Go.Abs
theorem unBig {u : UnI} (h : u.Ok) (hz : szU u ≤ 1048576) : UnBig u:=by
  obtain ⟨h1,h2,h3,h4⟩:=h
  have e : szU u = ((u.name.length + (u.params.length + szPs u.params)) + (u.body.length + szJs u.body)) + (u.face.length + szIs u.face):=rfl
  refine ⟨⟨by omega,fun p hp=>?_⟩,⟨by omega,fun x hx=>⟨h3.2 x hx,by have:=szJs_mem hx; omega⟩⟩,by omega,fun x hx=>⟨h4.2 x hx,by have:=szIs_mem hx; unfold szI at this; omega⟩⟩
  have hs:=szPs_mem hp
  have hpo:=(h2.2 p hp).2
  unfold szP at hs
  exact ⟨by omega,fun x hx=>⟨hpo.2 x hx,by have:=szIs_mem hx; unfold szI at this; omega⟩⟩
theorem deBig {d : DeI} (h : d.Ok) (hz : szD d ≤ 1048576) : DeBig d:=by
  obtain ⟨h1,h2,h3,h4⟩:=h
  unfold szD szD2 szD1 at hz
  exact ⟨unBig h1 (by omega),by omega⟩
theorem prBig {p : PrI} (h : p.Ok) (hz : szG p ≤ 1048576) : PrBig p:=by
  obtain ⟨h1,h2⟩:=h
  unfold szG szG1 at hz
  exact ⟨⟨by omega,fun d hd=>deBig (h1.2 d hd) (by have:=szDs_mem hd; omega)⟩,h2,by omega⟩
end Go.Proofs.YtnjdbgiincliaaaGreat
/- The facts of a claim, one by one: a great program's do not fit into one check. -/
set_option linter.unusedVariables false
namespace Go.Proofs.YtnjdbgiincliaaaGreat
open Go.Abs Go.RowKit Go.ChangeShapes Go.WideShapes Go.ChangeAt Go.ChangeMaps
open Program Func OpenClaim in
theorem jf_of {P : Program} {f : FuncId} {fn : Func} {s : ChangeSpec} {c : OpenClaim} (h0 : (c.wf (OpenSpec.ofChange s)) = true) (h1 : (laidOutB P) = true) (h2 : (mapsRowed P) = true) (h3 : (fn.params.all (P.readableRec ·)) = true) (h4 : (namedTie P c.named s.vars) = true) (h5 : ((c.stops == [])) = true) (h6 : ((P.stops == [])) = true) (h7 : ((c.knobs == [])) = true) (h8 : ((P.stopKnobs == [])) = true) (h9 : ((c.inPlace == P.inPlace f)) = true) (h10 : ((c.unfollowed == P.unfollowed f)) = true) (h11 : ((c.recurses == P.recurses f)) = true) (h12 : ((c.named == P.varsNamed f)) = true) (h13 : ((c.maps == (fn.params.toList ++ s.plain.varTypes P).any (P.mapsRec ·))) = true) (h14 : ((c.ifaces == (fn.params.toList ++ s.plain.varTypes P).any (P.ifacesRec ·))) = true) (h15 : ((c.mapsOut == P.mapsAmong fn.resultTypes.toList)) = true) (h16 : ((c.loops == (fn.params.toList ++ s.plain.varTypes P).any (P.loopsFrom ·))) = true) (h17 : ((c.wideKeys == (fn.params.toList ++ s.plain.varTypes P ++ fn.resultTypes.toList).any (P.wideKeysFrom ·))) = true) (h18 : (s.vars.all (P.varReadable ·)) = true) (h19 : (fn.resultTypes.all (fun t=>P.readableRec t && decide (t < P.types.size))) = true) (h20 : ((c.ifacesOut == fn.resultTypes.toList.any (P.ifacesRec ·))) = true) (h21 : ((c.loopsOut == fn.resultTypes.toList.any (P.loopsFrom ·))) = true) (h22 : ((c.plainKeys == P.plainKeys)) = true) (h23 : (c.shortTexts.isNone) = true) (h24 : (P.stopsHeard) = true) (h25 : (P.mayEnter) = true) (h26 : ((c.lifted == P.liftsFinal)) = true) (h27 : ((P.make == some c.make)) = true) (h28 : ((c.kinds == (if c.domain.isEmpty then [] else fn.params.toList.map fun t=>match P.underlying t with | some (.int k)=>some k | _=>none))) = true) (h29 : ((c.pinned == c.pinnedBy)) = true) (h30 : ((c.veiled == (fn.params.toList ++ s.plain.varTypes P ++ fn.resultTypes.toList).any (P.veiledRec ·))) = true) (h31 : (c.veiledFits P fn.params.toList (fn.params.toList ++ s.plain.varTypes P ++ fn.resultTypes.toList)) = true) : joinedFacts P f fn s c = true:=by
  unfold joinedFacts
  simp only [h0,h1,h2,h3,h4,h5,h6,h7,h8,h9,h10,h11,h12,h13,h14,h15,h16,h17,h18,h19,h20,h21,h22,h23,h24,h25,h26,h27,h29,h30,h31,Bool.and_true,Bool.true_and]
  exact h28
theorem jp1 : laidOutB Tryz.pinned.checked.prog = true:=laid
theorem jp2 : mapsRowed Tryz.pinned.checked.prog = true:=by kernel_rfl
theorem jp6 : (Tryz.pinned.checked.prog.stops == []) = true:=by kernel_rfl
theorem jp8 : (Tryz.pinned.checked.prog.stopKnobs == []) = true:=by kernel_rfl
theorem jp24 : Tryz.pinned.checked.prog.stopsHeard = true:=by kernel_rfl
theorem jp25 : Tryz.pinned.checked.prog.mayEnter = true:=by kernel_rfl
end Go.Proofs.YtnjdbgiincliaaaGreat
