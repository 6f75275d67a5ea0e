/- SigSpec. -/
import Derived.Test.YtnjdbgiincliaaaGreatM02
import Derived.Test.YtnjdbgiincliaaaGreatAbsW3
/- The model's SigValid. -/
set_option linter.unusedVariables false
set_option linter.unusedSimpArgs false
namespace Go.Proofs.YtnjdbgiincliaaaGreat
open Go.Abs
abbrev Nm:=List UInt8 × List UInt8
def nty (p : Nm) : Ty:=.mk 3 p.1 p.2 []
def nrows (ns : List Nm) : List (List AV):=encs (ns.map nty)
noncomputable def addN (ns : List Nm) (p : Nm) : List Nm:=if p ∈ ns then ns else ns ++ [p]
noncomputable def nmsV : List Nm → VT → List Nm
  | ns,.num=>ns
  | ns,.nm m k=>addN ns (m,k)
  | ns,.fn a b=>nmsV (nmsV ns a) b
def allV (p : Nm → Bool) : VT → Bool
  | .num=>true
  | .nm m k=>p (m,k)
  | .fn a b=>allV p a && allV p b
theorem addN_all (p : Nm → Bool) (ns : List Nm) (x : Nm) : (addN ns x).all p = (ns.all p && p x):=by
  unfold addN
  split
  · rename_i h
    rw [Bool.eq_iff_iff]
    simp only [List.all_eq_true,Bool.and_eq_true]
    exact ⟨fun hh=>⟨hh,hh x h⟩,fun hh=>hh.1⟩
  · simp
theorem nmsV_all (p : Nm → Bool) : ∀ (v : VT) (ns : List Nm),(nmsV ns v).all p = (ns.all p && allV p v)
  | .num,ns=>by simp [nmsV,allV]
  | .nm m k,ns=>by simp [nmsV,allV,addN_all]
  | .fn a b,ns=>by rw [nmsV,nmsV_all p b,nmsV_all p a,allV,Bool.and_assoc]
theorem addN_len (ns : List Nm) (p : Nm) : (addN ns p).length ≤ ns.length + 1:=by unfold addN; split <;> simp
theorem nmsV_len : ∀ (v : VT) (ns : List Nm),(nmsV ns v).length ≤ ns.length + cnt v
  | .num,ns=>by simp [nmsV,cnt]
  | .nm m k,ns=>by simp only [nmsV,cnt]; exact addN_len _ _
  | .fn a b,ns=>by
    have h1:=nmsV_len a ns
    have h2:=nmsV_len b (nmsV ns a)
    simp only [nmsV,cnt]; omega
def OwnL (A : List Box) (ns : List Nm) (r : AV) : Prop :=
  (r = .nils ∧ ns = []) ∨ ∃ j,r = .own j ∧ j < A.length ∧ A.getD j .dead = .row 4 (nrows ns) 0
def FrN (r r' : AV) (A A' : List Box) : Prop:=A.length ≤ A'.length ∧ (r' = r ∨ ∃ j,r' = .own j ∧ A.length ≤ j) ∧ ∀ k,k < A.length → r ≠ .own k → A'.getD k .dead = A.getD k .dead
theorem FrN.refl (r : AV) (A : List Box) : FrN r r A A:=⟨Nat.le_refl _,.inl rfl,fun _ _ _=>rfl⟩
theorem FrN.trans {r r1 r2 : AV} {A B C : List Box} (h : FrN r r1 A B) (k : FrN r1 r2 B C) : FrN r r2 A C:=by
  obtain ⟨a1,a2,a3⟩:=h
  obtain ⟨b1,b2,b3⟩:=k
  refine ⟨by omega,?_,fun x hx hr=>?_⟩
  · rcases b2 with rfl | ⟨j,rfl,hj⟩
    · exact a2
    · exact .inr ⟨j,rfl,by omega⟩
  · rw [b3 x (by omega) ?_,a3 x hx hr]
    rcases a2 with rfl | ⟨j,rfl,hj⟩
    · exact hr
    · intro e; injection e with e; omega
theorem OwnL.app {A : List Box} {ns : List Nm} {r : AV} (h : OwnL A ns r) (B : List Box) : OwnL (A ++ B) ns r:=by
  rcases h with h | ⟨j,h1,h2,h3⟩
  · exact .inl h
  · exact .inr ⟨j,h1,by simp; omega,by rw [Abs.getD_append_left h2]; exact h3⟩
theorem FrN.app (r : AV) (A B : List Box) : FrN r r A (A ++ B):=⟨by simp,.inl rfl,fun k hk _=>Abs.getD_append_left hk⟩
theorem nrows_length (ns : List Nm) : (nrows ns).length = ns.length:=by rw [nrows,encs_length]; simp
theorem nrows_getD {ns : List Nm} {i : Nat} (h : i < ns.length) : (nrows ns).getD i [] = [.int .i64 3,.str (ns.getD i ([],[])).1,.str (ns.getD i ([],[])).2,.slice []]:=by
  rw [nrows,encs_getD (by simpa using h)]
  have : (ns.map nty).getD i ty0 = nty (ns.getD i ([],[])):=by simp [List.getD,h]
  rw [this,nty,enc]
  simp [encs]
theorem nty_enc (p : Nm) : enc (nty p) = [.int .i64 3,.str p.1,.str p.2,.slice []]:=by rw [nty,enc]; simp [encs]
theorem nty_ok {p : Nm} (h : p.1.length < 2 ^ 63 ∧ p.2.length < 2 ^ 63) : (nty p).Ok:=.mk h.1 h.2 (by simp) (by simp)
theorem nty_inj {p q : Nm} : (nty p = nty q) = (p = q):=by
  simp [nty,Prod.ext_iff]
set_option maxRecDepth 100000 in
theorem copy_name (m k : List UInt8) (A : List Box) : ACalls Tryz.prog 204 [.agg [.int .i64 3,.str m,.str k,.slice []]] A (fun r A'=>r = .agg [.int .i64 3,.str m,.str k,.slice []] ∧ A' = A):=by
  refine acalls_enter (cf:=cf 31 [0,1,2,3,4,16]) foll Tryz.func204 Tryz.ntmps204 (by simp [cf]) ?_
  simp only [Tryz.f204,EnterK_some,zW,zX,zD,builtinA,isLeaf,const1,Nat.reduceAdd,Nat.reduceMul,Nat.reduceSub,Nat.reduceLT,Nat.reduceLeDiff,Nat.reduceEqDiff,Nat.reduceBEq,Nat.reduceBNe,reduceIte,reduceCtorEq,Int.reduceToNat,Int.reduceLT,Int.reduceLE,Int.reduceEq,Int.reduceNe,Int.reduceNeg,ustrA,ti3,ti9,ti34,ti36,ca204,cf,Tryz.results204]
  refine aloop_intro [1,2,3,4] (fun e A'=>e = [(1,.ptr A.length 0),(2,.ptr (A.length + 1) 0),(3,.ptr (A.length + 2) 0),(4,.int .i64 0)] ∧ A' = A ++ [.cells [.int .i64 3,.str m,.str k,.slice []],.cells [.int .i64 0,.str [],.str [],.nils],.cells [.int .i64 3,.str m,.str k,.nils]]) (fun e _=>0) ?_ ?_
  · simp only [zW,zX,zD,builtinA,isLeaf,const1,Nat.reduceAdd,Nat.reduceMul,Nat.reduceSub,Nat.reduceLT,Nat.reduceLeDiff,Nat.reduceEqDiff,Nat.reduceBEq,Nat.reduceBNe,reduceIte,reduceCtorEq,Int.reduceToNat,Int.reduceLT,Int.reduceLE,Int.reduceEq,Int.reduceNe,Int.reduceNeg,ustrA,ti3,ti9,ti34,ti36,ca204,cf,Tryz.results204]
  · rintro e A' ⟨rfl,rfl⟩
    simp only [zW,zX,zD,builtinA,isLeaf,const1,Nat.reduceAdd,Nat.reduceMul,Nat.reduceSub,Nat.reduceLT,Nat.reduceLeDiff,Nat.reduceEqDiff,Nat.reduceBEq,Nat.reduceBNe,reduceIte,reduceCtorEq,Int.reduceToNat,Int.reduceLT,Int.reduceLE,Int.reduceEq,Int.reduceNe,Int.reduceNeg,ustrA,ti3,ti9,ti34,ti36,ca204,cf,Tryz.results204]
    refine condK_intro (fun h=>absurd h (by simp)) (fun _=>?_)
    simp only [zW,zX,zD,builtinA,isLeaf,const1,Nat.reduceAdd,Nat.reduceMul,Nat.reduceSub,Nat.reduceLT,Nat.reduceLeDiff,Nat.reduceEqDiff,Nat.reduceBEq,Nat.reduceBNe,reduceIte,reduceCtorEq,Int.reduceToNat,Int.reduceLT,Int.reduceLE,Int.reduceEq,Int.reduceNe,Int.reduceNeg,ustrA,ti3,ti9,ti34,ti36,ca204,cf,Tryz.results204]
def nOk (ns : List Nm) : Prop:=∀ p ∈ ns,p.1.length ≤ 1 ∧ p.2.length ≤ 1
theorem nm_short {m n : List UInt8} (h : nmB m n = true) : n.length = 1 ∧ m.length ≤ 1:=by
  simp only [nmB,Bool.and_eq_true,Bool.or_eq_true,decide_eq_true_eq] at h
  obtain ⟨h1,h2⟩:=h
  have h3 : n.length = 1:=by simp [localB] at h2; exact h2.1
  rcases h1 with h1 | h1
  · exact ⟨h3,by simp [h1]⟩
  · simp [moduleB] at h1; exact ⟨h3,by omega⟩
theorem addN_ok {ns : List Nm} {p : Nm} (h : nOk ns) (hp : p.1.length ≤ 1 ∧ p.2.length ≤ 1) : nOk (addN ns p):=by
  unfold addN
  split
  · exact h
  · intro q hq
    rcases List.mem_append.1 hq with hq | hq
    · exact h q hq
    · rw [List.mem_singleton.1 hq]; exact hp
theorem nmsV_ok : ∀ (v : VT) {ns : List Nm},nOk ns → okV v = true → nOk (nmsV ns v)
  | .num,ns,h,_=>h
  | .nm m k,ns,h,hv=>addN_ok h (by have:=nm_short hv; exact ⟨this.2,Nat.le_of_eq this.1⟩)
  | .fn a b,ns,h,hv=>by
    simp [okV] at hv
    exact nmsV_ok b (nmsV_ok a h hv.1) hv.2
theorem same_name (p q : Nm) (hp : p.1.length ≤ 1 ∧ p.2.length ≤ 1) (A : List Box) : ACalls Tryz.prog 249 [.agg [.int .i64 3,.str p.1,.str p.2,.slice []],.agg [.int .i64 3,.str q.1,.str q.2,.slice []]] A (fun r A'=>r = .bool (decide (p = q)) ∧ A' = A):=by
  have h:=spec_TypeSame (nty p) (nty_ok (by omega)) (nty q) A
  rw [nty_enc,nty_enc] at h
  have e : decide (nty p = nty q) = decide (p = q):=by
    rw [Bool.eq_iff_iff]; simp only [decide_eq_true_eq]; rw [nty_inj]
  rw [e] at h
  exact h
def NamesT (v : VT) : Prop:=∀ (A : List Box) (ns : List Nm) (r0 : AV),okV v = true → ns.length + cnt v ≤ 1000 → nOk ns → OwnL A ns r0 → ACalls Tryz.prog 179 [r0,.agg (enc (toTy v))] A (fun r A'=>OwnL A' (nmsV ns v) r ∧ FrN r0 r A A')
set_option maxRecDepth 100000 in
theorem names_num : NamesT .num:=fun A ns r0 hv hl hns hO=>by
  rw [toTy,enc]
  refine acalls_enterK (cf:=cf 43 [0,1,3,4,5,6,9,13,21,32]) foll Tryz.func179 Tryz.ntmps179 (by simp [cf]) ?_
  simp only [Tryz.f179,EnterK_some,zW,zX,zD,builtinA,isLeaf,const1,Nat.reduceAdd,Nat.reduceMul,Nat.reduceSub,Nat.reduceLT,Nat.reduceLeDiff,Nat.reduceEqDiff,Nat.reduceBEq,Nat.reduceBNe,reduceIte,reduceCtorEq,Int.reduceToNat,Int.reduceLT,Int.reduceLE,Int.reduceEq,Int.reduceNe,Int.reduceNeg,ustrA,ti3,ti34,ti36,ca179,ca204,ca249,cf,Tryz.results179]
  refine aloop_intro [0,3,6] (fun e A'=>e = [(0,r0),(3,.ptr A.length 0),(6,.int .i64 0)] ∧ A' = A ++ [.cells [.int .i64 1,.str [],.str [],.slice []]]) (fun e _=>0) ?_ ?_
  · simp only [zW,zX,zD,builtinA,isLeaf,const1,Nat.reduceAdd,Nat.reduceMul,Nat.reduceSub,Nat.reduceLT,Nat.reduceLeDiff,Nat.reduceEqDiff,Nat.reduceBEq,Nat.reduceBNe,reduceIte,reduceCtorEq,Int.reduceToNat,Int.reduceLT,Int.reduceLE,Int.reduceEq,Int.reduceNe,Int.reduceNeg,ustrA,ti3,ti34,ti36,ca179,ca204,ca249,cf,Tryz.results179]
    simp [encs]
  · rintro e A' ⟨rfl,rfl⟩
    simp only [zW,zX,zD,builtinA,isLeaf,const1,Nat.reduceAdd,Nat.reduceMul,Nat.reduceSub,Nat.reduceLT,Nat.reduceLeDiff,Nat.reduceEqDiff,Nat.reduceBEq,Nat.reduceBNe,reduceIte,reduceCtorEq,Int.reduceToNat,Int.reduceLT,Int.reduceLE,Int.reduceEq,Int.reduceNe,Int.reduceNeg,ustrA,ti3,ti34,ti36,ca179,ca204,ca249,cf,Tryz.results179]
    refine condK_intro (fun h=>absurd h (by simp)) (fun _=>?_)
    simp only [zW,zX,zD,builtinA,isLeaf,const1,Nat.reduceAdd,Nat.reduceMul,Nat.reduceSub,Nat.reduceLT,Nat.reduceLeDiff,Nat.reduceEqDiff,Nat.reduceBEq,Nat.reduceBNe,reduceIte,reduceCtorEq,Int.reduceToNat,Int.reduceLT,Int.reduceLE,Int.reduceEq,Int.reduceNe,Int.reduceNeg,ustrA,ti3,ti34,ti36,ca179,ca204,ca249,cf,Tryz.results179]
    exact ⟨hO.app _,FrN.app _ _ _⟩
set_option maxRecDepth 100000 in
theorem names_nm (m k : List UInt8) : NamesT (.nm m k):=fun A ns r0 hv hl hns hO=>by
  have hnm:=nm_short hv
  have henc : enc (toTy (.nm m k)) = [.int .i64 3,.str m,.str k,.slice []]:=nty_enc (m,k)
  simp only [cnt] at hl
  rw [henc]
  rcases hO with ⟨rfl,rfl⟩ | ⟨j,rfl,hj,hA⟩
  · refine acalls_enterK (cf:=cf 43 [0,1,3,4,5,6,9,13,21,32]) foll Tryz.func179 Tryz.ntmps179 (by simp [cf]) ?_
    simp only [Tryz.f179,EnterK_some,zW,zX,zD,builtinA,isLeaf,const1,Nat.reduceAdd,Nat.reduceMul,Nat.reduceSub,Nat.reduceLT,Nat.reduceLeDiff,Nat.reduceEqDiff,Nat.reduceBEq,Nat.reduceBNe,reduceIte,reduceCtorEq,Int.reduceToNat,Int.reduceLT,Int.reduceLE,Int.reduceEq,Int.reduceNe,Int.reduceNeg,ustrA,ti3,ti34,ti36,ca179,ca204,ca249,cf,Tryz.results179]
    refine aloop_intro [0,3,5] (fun e A'=>e = [(0,.nils),(3,.ptr A.length 0),(5,.int .i64 0)] ∧ A' = A ++ [.cells [.int .i64 3,.str m,.str k,.slice []]]) (fun e _=>0) ?_ ?_
    · simp only [zW,zX,zD,builtinA,isLeaf,const1,Nat.reduceAdd,Nat.reduceMul,Nat.reduceSub,Nat.reduceLT,Nat.reduceLeDiff,Nat.reduceEqDiff,Nat.reduceBEq,Nat.reduceBNe,reduceIte,reduceCtorEq,Int.reduceToNat,Int.reduceLT,Int.reduceLE,Int.reduceEq,Int.reduceNe,Int.reduceNeg,ustrA,ti3,ti34,ti36,ca179,ca204,ca249,cf,Tryz.results179]
    · rintro e A' ⟨rfl,rfl⟩
      simp only [zW,zX,zD,builtinA,isLeaf,const1,Nat.reduceAdd,Nat.reduceMul,Nat.reduceSub,Nat.reduceLT,Nat.reduceLeDiff,Nat.reduceEqDiff,Nat.reduceBEq,Nat.reduceBNe,reduceIte,reduceCtorEq,Int.reduceToNat,Int.reduceLT,Int.reduceLE,Int.reduceEq,Int.reduceNe,Int.reduceNeg,ustrA,ti3,ti34,ti36,ca179,ca204,ca249,cf,Tryz.results179]
      refine condK_intro (fun h=>absurd h (by simp)) (fun _=>?_)
      simp only [zW,zX,zD,builtinA,isLeaf,const1,Nat.reduceAdd,Nat.reduceMul,Nat.reduceSub,Nat.reduceLT,Nat.reduceLeDiff,Nat.reduceEqDiff,Nat.reduceBEq,Nat.reduceBNe,reduceIte,reduceCtorEq,Int.reduceToNat,Int.reduceLT,Int.reduceLE,Int.reduceEq,Int.reduceNe,Int.reduceNeg,ustrA,ti3,ti34,ti36,ca179,ca204,ca249,cf,Tryz.results179]
      refine callK_intro (by simp only [zW,zX,zD,builtinA,isLeaf,const1,Nat.reduceAdd,Nat.reduceMul,Nat.reduceSub,Nat.reduceLT,Nat.reduceLeDiff,Nat.reduceEqDiff,Nat.reduceBEq,Nat.reduceBNe,reduceIte,reduceCtorEq,Int.reduceToNat,Int.reduceLT,Int.reduceLE,Int.reduceEq,Int.reduceNe,Int.reduceNeg,ustrA]; rfl) (copy_name m k _) ?_ rfl; rintro v A' ⟨rfl,rfl⟩
      simp only [zW,zX,zD,builtinA,isLeaf,const1,Nat.reduceAdd,Nat.reduceMul,Nat.reduceSub,Nat.reduceLT,Nat.reduceLeDiff,Nat.reduceEqDiff,Nat.reduceBEq,Nat.reduceBNe,reduceIte,reduceCtorEq,Int.reduceToNat,Int.reduceLT,Int.reduceLE,Int.reduceEq,Int.reduceNe,Int.reduceNeg,ustrA,ti3,ti34,ti36,ca179,ca204,ca249,cf,Tryz.results179]
      have e : nmsV [] (.nm m k) = [(m,k)]:=by simp [nmsV,addN]
      refine ⟨by simp,by simp,.inr ⟨A.length + 2,rfl,by simp,?_⟩,⟨by simp,.inr ⟨_,rfl,by omega⟩,fun x hx _=>Abs.getD_append_left hx⟩⟩
      rw [Abs.getD_append_right (by omega),e,nrows]
      simp only [List.map_cons,List.map_nil,encs,nty_enc,show A.length + 2 - A.length = 2 by omega]
      rfl
  · refine acalls_enterK (cf:=cf 43 [0,1,3,4,5,6,9,13,21,32]) foll Tryz.func179 Tryz.ntmps179 (by simp [cf]) ?_
    simp only [Tryz.f179,EnterK_some,zW,zX,zD,builtinA,isLeaf,const1,Nat.reduceAdd,Nat.reduceMul,Nat.reduceSub,Nat.reduceLT,Nat.reduceLeDiff,Nat.reduceEqDiff,Nat.reduceBEq,Nat.reduceBNe,reduceIte,reduceCtorEq,Int.reduceToNat,Int.reduceLT,Int.reduceLE,Int.reduceEq,Int.reduceNe,Int.reduceNeg,ustrA,ti3,ti34,ti36,ca179,ca204,ca249,cf,Tryz.results179]
    have hb : ∀ B,(A ++ B).getD j .dead = .row 4 (nrows ns) 0:=fun B=>by rw [Abs.getD_append_left hj]; exact hA
    refine aloop_intro [0,3,5] (fun e A'=>∃ i,i ≤ ns.length ∧ (m,k) ∉ ns.take i ∧ e = [(0,.own j),(3,.ptr A.length 0),(5,.int .i64 i)] ∧ A' = A ++ [.cells [.int .i64 3,.str m,.str k,.slice []]]) (fun e _=>ns.length - (intOf (Abs.look 5 e)).toNat) ?_ ?_
    · simp only [zW,zX,zD,builtinA,isLeaf,const1,Nat.reduceAdd,Nat.reduceMul,Nat.reduceSub,Nat.reduceLT,Nat.reduceLeDiff,Nat.reduceEqDiff,Nat.reduceBEq,Nat.reduceBNe,reduceIte,reduceCtorEq,Int.reduceToNat,Int.reduceLT,Int.reduceLE,Int.reduceEq,Int.reduceNe,Int.reduceNeg,ustrA,ti3,ti34,ti36,ca179,ca204,ca249,cf,Tryz.results179]
      exact ⟨0,by omega,by simp,rfl⟩
    · rintro e A' ⟨i,hi,hq,rfl,rfl⟩
      simp only [zW,zX,zD,builtinA,isLeaf,const1,Nat.reduceAdd,Nat.reduceMul,Nat.reduceSub,Nat.reduceLT,Nat.reduceLeDiff,Nat.reduceEqDiff,Nat.reduceBEq,Nat.reduceBNe,reduceIte,reduceCtorEq,Int.reduceToNat,Int.reduceLT,Int.reduceLE,Int.reduceEq,Int.reduceNe,Int.reduceNeg,ustrA,ti3,ti34,ti36,ca179,ca204,ca249,cf,Tryz.results179,hb,nrows_length]
      refine condK_intro (fun h2=>?_) (fun h2=>?_)
      · have hi2 : i < ns.length:=by simpa using h2
        have hg:=nrows_getD hi2
        have hp:=hns (ns.getD i ([],[])) (by simp [List.getD,hi2])
        have hi1 : IntKind.i64.wrap ((i : Int) + 1) = ((i + 1 : Nat) : Int):=by rw [wrap64 (by omega) (by omega)]; rfl
        have htk : ns.take (i + 1) = ns.take i ++ [ns.getD i ([],[])]:=by rw [List.take_add_one]; simp [List.getD,hi2]
        have hmem : ns.getD i ([],[]) ∈ ns:=by simp [List.getD,hi2]
        simp only [zW,zX,zD,builtinA,isLeaf,const1,Nat.reduceAdd,Nat.reduceMul,Nat.reduceSub,Nat.reduceLT,Nat.reduceLeDiff,Nat.reduceEqDiff,Nat.reduceBEq,Nat.reduceBNe,reduceIte,reduceCtorEq,Int.reduceToNat,Int.reduceLT,Int.reduceLE,Int.reduceEq,Int.reduceNe,Int.reduceNeg,ustrA,ti3,ti34,ti36,ca179,ca204,ca249,cf,Tryz.results179,hb,hg,nrows_length]
        refine .inl ⟨by kernel_rfl,by kernel_rfl,⟨by omega,by omega⟩,?_⟩
        refine callD_intro (by simp only [zW,zX,zD,builtinA,isLeaf,const1,Nat.reduceAdd,Nat.reduceMul,Nat.reduceSub,Nat.reduceLT,Nat.reduceLeDiff,Nat.reduceEqDiff,Nat.reduceBEq,Nat.reduceBNe,reduceIte,reduceCtorEq,Int.reduceToNat,Int.reduceLT,Int.reduceLE,Int.reduceEq,Int.reduceNe,Int.reduceNeg,ustrA,Option.map_some] <;> rfl) (same_name (ns.getD i ([],[])) (m,k) hp _) ?_ rfl
        by_cases he : ns.getD i ([],[]) = (m,k)
        · have e : nmsV ns (.nm m k) = ns:=by rw [nmsV,addN,if_pos (by rw [← he]; exact hmem)]
          simp only [zW,zX,zD,builtinA,isLeaf,const1,Nat.reduceAdd,Nat.reduceMul,Nat.reduceSub,Nat.reduceLT,Nat.reduceLeDiff,Nat.reduceEqDiff,Nat.reduceBEq,Nat.reduceBNe,reduceIte,reduceCtorEq,Int.reduceToNat,Int.reduceLT,Int.reduceLE,Int.reduceEq,Int.reduceNe,Int.reduceNeg,ustrA,ti3,ti34,ti36,ca179,ca204,ca249,cf,Tryz.results179,decide_eq_true he]
          rw [e]
          exact ⟨.inr ⟨j,rfl,by simp; omega,hb _⟩,FrN.app _ _ _⟩
        · simp only [zW,zX,zD,builtinA,isLeaf,const1,Nat.reduceAdd,Nat.reduceMul,Nat.reduceSub,Nat.reduceLT,Nat.reduceLeDiff,Nat.reduceEqDiff,Nat.reduceBEq,Nat.reduceBNe,reduceIte,reduceCtorEq,Int.reduceToNat,Int.reduceLT,Int.reduceLE,Int.reduceEq,Int.reduceNe,Int.reduceNeg,ustrA,ti3,ti34,ti36,ca179,ca204,ca249,cf,Tryz.results179,decide_eq_false he,hi1,LoopK_eq]
          refine ⟨⟨i + 1,by omega,?_,rfl⟩,?_⟩
          · rw [htk]; simp only [List.mem_append,List.mem_singleton,not_or]; exact ⟨hq,fun h=>he h.symm⟩
          · simp only [intOf]; omega
      · have hi2 : i = ns.length:=by simp at h2; omega
        subst hi2
        rw [List.take_length] at hq
        have e : nmsV ns (.nm m k) = ns ++ [(m,k)]:=by rw [nmsV,addN,if_neg hq]
        simp only [zW,zX,zD,builtinA,isLeaf,const1,Nat.reduceAdd,Nat.reduceMul,Nat.reduceSub,Nat.reduceLT,Nat.reduceLeDiff,Nat.reduceEqDiff,Nat.reduceBEq,Nat.reduceBNe,reduceIte,reduceCtorEq,Int.reduceToNat,Int.reduceLT,Int.reduceLE,Int.reduceEq,Int.reduceNe,Int.reduceNeg,ustrA,ti3,ti34,ti36,ca179,ca204,ca249,cf,Tryz.results179]
        refine callK_intro (by simp only [zW,zX,zD,builtinA,isLeaf,const1,Nat.reduceAdd,Nat.reduceMul,Nat.reduceSub,Nat.reduceLT,Nat.reduceLeDiff,Nat.reduceEqDiff,Nat.reduceBEq,Nat.reduceBNe,reduceIte,reduceCtorEq,Int.reduceToNat,Int.reduceLT,Int.reduceLE,Int.reduceEq,Int.reduceNe,Int.reduceNeg,ustrA]; rfl) (copy_name m k _) ?_ rfl; rintro v A' ⟨rfl,rfl⟩
        have hb2 : ∀ B C : List Box,((A ++ B) ++ C).getD j .dead = .row 4 (nrows ns) 0:=fun B C=>by rw [List.append_assoc]; exact hb _
        simp only [zW,zX,zD,builtinA,isLeaf,const1,Nat.reduceAdd,Nat.reduceMul,Nat.reduceSub,Nat.reduceLT,Nat.reduceLeDiff,Nat.reduceEqDiff,Nat.reduceBEq,Nat.reduceBNe,reduceIte,reduceCtorEq,Int.reduceToNat,Int.reduceLT,Int.reduceLE,Int.reduceEq,Int.reduceNe,Int.reduceNeg,ustrA,ti3,ti34,ti36,ca179,ca204,ca249,cf,Tryz.results179,hb,hb2]
        have hjn : ∀ k,j ≠ A.length + k:=fun k=>by omega
        refine ⟨by simp,⟨by simp,by rw [nrows_length]; omega⟩,.inr ⟨A.length + 2,rfl,by simp,?_⟩,⟨by simp; omega,.inr ⟨_,rfl,by omega⟩,fun x hx hne=>?_⟩⟩
        · rw [Abs.getD_append_right (by simp),e,nrows,nrows]
          simp [encs_map,nty_enc]
        · have hxj : j ≠ x:=fun e=>hne (by rw [e])
          rw [Abs.getD_append_left (by simp; omega),getD_set_ne' hxj,Abs.getD_append_left hx]
set_option maxRecDepth 100000 in
theorem names_fn (a b : VT) (ha : NamesT a) (hb : NamesT b) : NamesT (.fn a b):=fun A ns r0 hv hl hns hO=>by
  simp only [okV,Bool.and_eq_true] at hv
  simp only [cnt] at hl
  have hla:=nmsV_len a ns
  have hna:=nmsV_ok a hns hv.1
  rw [toTy,enc]
  simp only [encs]
  refine acalls_enterK (cf:=cf 43 [0,1,3,4,5,6,9,13,21,32]) foll Tryz.func179 Tryz.ntmps179 (by simp [cf]) ?_
  simp only [Tryz.f179,EnterK_some,zW,zX,zD,builtinA,isLeaf,const1,Nat.reduceAdd,Nat.reduceMul,Nat.reduceSub,Nat.reduceLT,Nat.reduceLeDiff,Nat.reduceEqDiff,Nat.reduceBEq,Nat.reduceBNe,reduceIte,reduceCtorEq,Int.reduceToNat,Int.reduceLT,Int.reduceLE,Int.reduceEq,Int.reduceNe,Int.reduceNeg,ustrA,ti3,ti34,ti36,ca179,ca204,ca249,cf,Tryz.results179]
  refine aloop_intro [0,3,6] (fun e A'=>∃ i r,i ≤ 2 ∧ e = [(0,r),(3,.ptr A.length 0),(6,.int .i64 (i : Nat))] ∧ OwnL A' (if i = 0 then ns else if i = 1 then nmsV ns a else nmsV (nmsV ns a) b) r ∧ FrN r0 r A A' ∧ A.length < A'.length ∧
    A'.getD A.length .dead = .cells [.int .i64 2,.str [],.str [],.slice [enc (toTy a),enc (toTy b)]] ∧ r ≠ .own A.length) (fun e _=>2 - (intOf (Abs.look 6 e)).toNat) ?_ ?_
  · simp only [zW,zX,zD,builtinA,isLeaf,const1,Nat.reduceAdd,Nat.reduceMul,Nat.reduceSub,Nat.reduceLT,Nat.reduceLeDiff,Nat.reduceEqDiff,Nat.reduceBEq,Nat.reduceBNe,reduceIte,reduceCtorEq,Int.reduceToNat,Int.reduceLT,Int.reduceLE,Int.reduceEq,Int.reduceNe,Int.reduceNeg,ustrA,ti3,ti34,ti36,ca179,ca204,ca249,cf,Tryz.results179]
    refine ⟨0,r0,by omega,rfl,by simpa using hO.app _,FrN.app _ _ _,by omega,?_⟩
    intro e
    rcases hO with ⟨rfl,_⟩ | ⟨j,rfl,hj,_⟩
    · cases e
    · injection e with e; omega
  · rintro e A' ⟨i,r,hi,rfl,hO',hF,hlt,hbx,hne⟩
    simp only [zW,zX,zD,builtinA,isLeaf,const1,Nat.reduceAdd,Nat.reduceMul,Nat.reduceSub,Nat.reduceLT,Nat.reduceLeDiff,Nat.reduceEqDiff,Nat.reduceBEq,Nat.reduceBNe,reduceIte,reduceCtorEq,Int.reduceToNat,Int.reduceLT,Int.reduceLE,Int.reduceEq,Int.reduceNe,Int.reduceNeg,ustrA,ti3,ti34,ti36,ca179,ca204,ca249,cf,Tryz.results179,hbx]
    refine condK_intro (fun h2=>?_) (fun h2=>?_)
    · have hi2 : i < 2:=by simp at h2; omega
      have hi1 : IntKind.i64.wrap ((i : Int) + 1) = ((i + 1 : Nat) : Int):=by rw [wrap64 (by omega) (by omega)]; rfl
      have hw1 : IntKind.i64.wrap 1 = 1:=rfl
      have hw2 : IntKind.i64.wrap 2 = 2:=rfl
      have kpt : ∀ r' A2,FrN r r' A' A2 → A.length < A2.length ∧ A2.getD A.length .dead = .cells [.int .i64 2,.str [],.str [],.slice [enc (toTy a),enc (toTy b)]] ∧ r' ≠ .own A.length:=fun r' A2 hf=>by
        refine ⟨Nat.lt_of_lt_of_le hlt hf.1,by rw [hf.2.2 _ hlt hne]; exact hbx,?_⟩
        rcases hf.2.1 with rfl | ⟨j,rfl,hj⟩
        · exact hne
        · intro e; injection e with e; omega
      match i,hi2,hO',hi1 with
      | 0,_,hO',hi1 =>
        simp only [if_true] at hO'
        simp only [zW,zX,zD,builtinA,isLeaf,const1,Nat.reduceAdd,Nat.reduceMul,Nat.reduceSub,Nat.reduceLT,Nat.reduceLeDiff,Nat.reduceEqDiff,Nat.reduceBEq,Nat.reduceBNe,reduceIte,reduceCtorEq,Int.reduceToNat,Int.reduceLT,Int.reduceLE,Int.reduceEq,Int.reduceNe,Int.reduceNeg,ustrA,ti3,ti34,ti36,ca179,ca204,ca249,cf,Tryz.results179,hbx,enc_length,enc_take]
        refine ⟨by decide,?_⟩
        refine callO_intro (ha _ ns r hv.1 (by omega) hns hO') ?_
        rintro r' A2 ⟨hO2,hf2⟩
        obtain ⟨k1,k2,k3⟩:=kpt r' A2 hf2
        simp only [zW,zX,zD,builtinA,isLeaf,const1,Nat.reduceAdd,Nat.reduceMul,Nat.reduceSub,Nat.reduceLT,Nat.reduceLeDiff,Nat.reduceEqDiff,Nat.reduceBEq,Nat.reduceBNe,reduceIte,reduceCtorEq,Int.reduceToNat,Int.reduceLT,Int.reduceLE,Int.reduceEq,Int.reduceNe,Int.reduceNeg,ustrA,ti3,ti34,ti36,ca179,ca204,ca249,cf,Tryz.results179,hw1,hw2,LoopK_eq]
        refine ⟨⟨1,r',by omega,rfl,by simpa using hO2,hF.trans hf2,k1,k2,k3⟩,by simp only [intOf]; decide⟩
      | 1,_,hO',hi1 =>
        simp only [Nat.one_ne_zero,if_false,if_true] at hO'
        simp only [zW,zX,zD,builtinA,isLeaf,const1,Nat.reduceAdd,Nat.reduceMul,Nat.reduceSub,Nat.reduceLT,Nat.reduceLeDiff,Nat.reduceEqDiff,Nat.reduceBEq,Nat.reduceBNe,reduceIte,reduceCtorEq,Int.reduceToNat,Int.reduceLT,Int.reduceLE,Int.reduceEq,Int.reduceNe,Int.reduceNeg,ustrA,ti3,ti34,ti36,ca179,ca204,ca249,cf,Tryz.results179,hbx,enc_length,enc_take]
        refine ⟨by decide,?_⟩
        refine callO_intro (hb _ (nmsV ns a) r hv.2 (by omega) hna hO') ?_
        rintro r' A2 ⟨hO2,hf2⟩
        obtain ⟨k1,k2,k3⟩:=kpt r' A2 hf2
        simp only [zW,zX,zD,builtinA,isLeaf,const1,Nat.reduceAdd,Nat.reduceMul,Nat.reduceSub,Nat.reduceLT,Nat.reduceLeDiff,Nat.reduceEqDiff,Nat.reduceBEq,Nat.reduceBNe,reduceIte,reduceCtorEq,Int.reduceToNat,Int.reduceLT,Int.reduceLE,Int.reduceEq,Int.reduceNe,Int.reduceNeg,ustrA,ti3,ti34,ti36,ca179,ca204,ca249,cf,Tryz.results179,hw1,hw2,LoopK_eq]
        refine ⟨⟨2,r',by omega,rfl,by simpa using hO2,hF.trans hf2,k1,k2,k3⟩,by simp only [intOf]; decide⟩
    · have hi2 : i = 2:=by simp at h2; omega
      subst hi2
      simp only [zW,zX,zD,builtinA,isLeaf,const1,Nat.reduceAdd,Nat.reduceMul,Nat.reduceSub,Nat.reduceLT,Nat.reduceLeDiff,Nat.reduceEqDiff,Nat.reduceBEq,Nat.reduceBNe,reduceIte,reduceCtorEq,Int.reduceToNat,Int.reduceLT,Int.reduceLE,Int.reduceEq,Int.reduceNe,Int.reduceNeg,ustrA,ti3,ti34,ti36,ca179,ca204,ca249,cf,Tryz.results179]
      simp only [nmsV]
      exact ⟨by simpa using hO',hF⟩
theorem namesT : ∀ v,NamesT v
  | .num=>names_num
  | .nm m k=>names_nm m k
  | .fn a b=>names_fn a b (namesT a) (namesT b)
end Go.Proofs.YtnjdbgiincliaaaGreat
namespace Go.Proofs.YtnjdbgiincliaaaGreat
open Go.Abs
def isTB (x : SigI) : Bool:=decide (x.kind = 1) || decide (x.kind = 2)
def hasT (s : List SigI) (k : List UInt8) : Bool:=s.any fun x=>isTB x && decide (x.name = k)
def knN (s : List SigI) (p : Nm) : Bool:=!decide (p.1 = []) || hasT s p.2
set_option maxRecDepth 100000 in
theorem spec_l2IsType (x : SigI) (A : List Box) : ACalls Tryz.prog 246 [.agg (sE x)] A (fun r A'=>r = .bool (isTB x) ∧ A' = A):=by
  simp only [sE]
  refine acalls_enter (cf:=cf 11 [0,1,2]) foll Tryz.func246 Tryz.ntmps246 (by simp [cf]) ?_
  simp only [Tryz.f246,EnterK_some,zW,zX,zD,builtinA,isLeaf,const1,Nat.reduceAdd,Nat.reduceMul,Nat.reduceSub,Nat.reduceLT,Nat.reduceLeDiff,Nat.reduceEqDiff,Nat.reduceBEq,Nat.reduceBNe,reduceIte,reduceCtorEq,Int.reduceToNat,Int.reduceLT,Int.reduceLE,Int.reduceEq,Int.reduceNe,Int.reduceNeg,ustrA,ti3,ti69,cf,Tryz.results246]
  by_cases h : x.kind = 1
  · simp only [zW,zX,zD,builtinA,isLeaf,const1,Nat.reduceAdd,Nat.reduceMul,Nat.reduceSub,Nat.reduceLT,Nat.reduceLeDiff,Nat.reduceEqDiff,Nat.reduceBEq,Nat.reduceBNe,reduceIte,reduceCtorEq,Int.reduceToNat,Int.reduceLT,Int.reduceLE,Int.reduceEq,Int.reduceNe,Int.reduceNeg,ustrA,ti3,ti69,cf,Tryz.results246,decide_eq_true h]
    simp [isTB,h]
  · simp only [zW,zX,zD,builtinA,isLeaf,const1,Nat.reduceAdd,Nat.reduceMul,Nat.reduceSub,Nat.reduceLT,Nat.reduceLeDiff,Nat.reduceEqDiff,Nat.reduceBEq,Nat.reduceBNe,reduceIte,reduceCtorEq,Int.reduceToNat,Int.reduceLT,Int.reduceLE,Int.reduceEq,Int.reduceNe,Int.reduceNeg,ustrA,ti3,ti69,cf,Tryz.results246,decide_eq_false h]
    simp [isTB,h]
theorem hasT_take {s : List SigI} {i : Nat} (h : i < s.length) (k : List UInt8) : hasT (s.take (i + 1)) k = (hasT (s.take i) k || (isTB (s.getD i si0) && decide ((s.getD i si0).name = k))):=by
  rw [si_take h]; simp [hasT]
set_option maxRecDepth 100000 in
theorem spec_l2Known (s : List SigI) (hs : s.length ≤ 1048576) (v : VT) (hv : okV v = true) (hc : cnt v ≤ 100) (A : List Box) : ACalls Tryz.prog 248 [.slice (sEs s),.agg (enc (toTy v))] A (fun r A'=>r = .bool (allV (knN s) v) ∧ A' = A):=by
  have hall:=nmsV_all (knN s) v []
  simp only [List.all_nil,Bool.true_and] at hall
  have hlen:=nmsV_len v []
  simp only [List.length_nil,Nat.zero_add] at hlen
  refine acalls_enter (cf:=cf 52 [0,1,3,4,5,6,7,8,14,26,51]) foll Tryz.func248 Tryz.ntmps248 (by simp [cf]) ?_
  simp only [Tryz.f248,EnterK_some,zW,zX,zD,builtinA,isLeaf,const1,Nat.reduceAdd,Nat.reduceMul,Nat.reduceSub,Nat.reduceLT,Nat.reduceLeDiff,Nat.reduceEqDiff,Nat.reduceBEq,Nat.reduceBNe,reduceIte,reduceCtorEq,Int.reduceToNat,Int.reduceLT,Int.reduceLE,Int.reduceEq,Int.reduceNe,Int.reduceNeg,ustrA,ti3,ti9,ti34,ti36,ti50,ti69,ca179,ca246,cf,Tryz.results248]
  simp only [zW,zX,zD,builtinA,isLeaf,const1,Nat.reduceAdd,Nat.reduceMul,Nat.reduceSub,Nat.reduceLT,Nat.reduceLeDiff,Nat.reduceEqDiff,Nat.reduceBEq,Nat.reduceBNe,reduceIte,reduceCtorEq,Int.reduceToNat,Int.reduceLT,Int.reduceLE,Int.reduceEq,Int.reduceNe,Int.reduceNeg,ustrA,ti3,ti9,ti34,ti36,ti50,ti69,ca179,ca246,cf,Tryz.results248,enc_length,enc_take]
  refine callO_intro (namesT v _ [] .nils hv (by simp; omega) (fun p hp=>by simp at hp) (.inl ⟨rfl,rfl⟩)) ?_
  rintro r A' ⟨hO,hF⟩
  have hgo : A'.take A.length = A ∧ Outer A A':=by
    have hg : ∀ k,k < A.length → A'.getD k .dead = A.getD k .dead:=fun k hk=>by
      rw [hF.2.2 k (by simp; omega) (by intro e; cases e),Abs.getD_append_left hk]
    have hle : A.length ≤ A'.length:=by have:=hF.1; simp at this; omega
    refine ⟨List.ext_getElem? fun k=>?_,hle,fun i hi=>.inl (hg i hi)⟩
    by_cases hk : k < A.length
    · have:=hg k hk
      simp only [List.getD] at this
      have e1 : k < A'.length:=by omega
      simp only [List.getElem?_take,hk,if_true]
      simpa [hk,e1] using this
    · simp [List.getElem?_take,hk]
  rw [← hall]
  rcases hO with ⟨rfl,hns⟩ | ⟨j,rfl,hj,hA⟩
  · rw [hns]
    simp only [zW,zX,zD,builtinA,isLeaf,const1,Nat.reduceAdd,Nat.reduceMul,Nat.reduceSub,Nat.reduceLT,Nat.reduceLeDiff,Nat.reduceEqDiff,Nat.reduceBEq,Nat.reduceBNe,reduceIte,reduceCtorEq,Int.reduceToNat,Int.reduceLT,Int.reduceLE,Int.reduceEq,Int.reduceNe,Int.reduceNeg,ustrA,ti3,ti9,ti34,ti36,ti50,ti69,ca179,ca246,cf,Tryz.results248]
    refine aloop_intro [0,5,6] (fun e B=>e = [(0,.slice (sEs s)),(5,.nils),(6,.int .i64 0)] ∧ B = A') (fun e _=>0) ?_ ?_
    · simp only [zW,zX,zD,builtinA,isLeaf,const1,Nat.reduceAdd,Nat.reduceMul,Nat.reduceSub,Nat.reduceLT,Nat.reduceLeDiff,Nat.reduceEqDiff,Nat.reduceBEq,Nat.reduceBNe,reduceIte,reduceCtorEq,Int.reduceToNat,Int.reduceLT,Int.reduceLE,Int.reduceEq,Int.reduceNe,Int.reduceNeg,ustrA,ti3,ti9,ti34,ti36,ti50,ti69,ca179,ca246,cf,Tryz.results248]
    · rintro e B ⟨rfl,rfl⟩
      simp only [zW,zX,zD,builtinA,isLeaf,const1,Nat.reduceAdd,Nat.reduceMul,Nat.reduceSub,Nat.reduceLT,Nat.reduceLeDiff,Nat.reduceEqDiff,Nat.reduceBEq,Nat.reduceBNe,reduceIte,reduceCtorEq,Int.reduceToNat,Int.reduceLT,Int.reduceLE,Int.reduceEq,Int.reduceNe,Int.reduceNeg,ustrA,ti3,ti9,ti34,ti36,ti50,ti69,ca179,ca246,cf,Tryz.results248]
      refine condK_intro (fun h=>absurd h (by simp)) (fun _=>?_)
      simp only [zW,zX,zD,builtinA,isLeaf,const1,Nat.reduceAdd,Nat.reduceMul,Nat.reduceSub,Nat.reduceLT,Nat.reduceLeDiff,Nat.reduceEqDiff,Nat.reduceBEq,Nat.reduceBNe,reduceIte,reduceCtorEq,Int.reduceToNat,Int.reduceLT,Int.reduceLE,Int.reduceEq,Int.reduceNe,Int.reduceNeg,ustrA,ti3,ti9,ti34,ti36,ti50,ti69,ca179,ca246,cf,Tryz.results248]
      exact ⟨hgo.2,hgo.1⟩
  · generalize hns : nmsV [] v = ns at *
    simp only [zW,zX,zD,builtinA,isLeaf,const1,Nat.reduceAdd,Nat.reduceMul,Nat.reduceSub,Nat.reduceLT,Nat.reduceLeDiff,Nat.reduceEqDiff,Nat.reduceBEq,Nat.reduceBNe,reduceIte,reduceCtorEq,Int.reduceToNat,Int.reduceLT,Int.reduceLE,Int.reduceEq,Int.reduceNe,Int.reduceNeg,ustrA,ti3,ti9,ti34,ti36,ti50,ti69,ca179,ca246,cf,Tryz.results248]
    refine aloop_intro [0,5,6] (fun e B=>∃ i,i ≤ ns.length ∧ (ns.take i).all (knN s) = true ∧ e = [(0,.slice (sEs s)),(5,.own j),(6,.int .i64 (i : Nat))] ∧ B = A') (fun e _=>ns.length - (intOf (Abs.look 6 e)).toNat) ?_ ?_
    · simp only [zW,zX,zD,builtinA,isLeaf,const1,Nat.reduceAdd,Nat.reduceMul,Nat.reduceSub,Nat.reduceLT,Nat.reduceLeDiff,Nat.reduceEqDiff,Nat.reduceBEq,Nat.reduceBNe,reduceIte,reduceCtorEq,Int.reduceToNat,Int.reduceLT,Int.reduceLE,Int.reduceEq,Int.reduceNe,Int.reduceNeg,ustrA,ti3,ti9,ti34,ti36,ti50,ti69,ca179,ca246,cf,Tryz.results248]
      exact ⟨0,by omega,by simp,rfl⟩
    · rintro e B ⟨i,hi,hq,rfl,rfl⟩
      simp only [zW,zX,zD,builtinA,isLeaf,const1,Nat.reduceAdd,Nat.reduceMul,Nat.reduceSub,Nat.reduceLT,Nat.reduceLeDiff,Nat.reduceEqDiff,Nat.reduceBEq,Nat.reduceBNe,reduceIte,reduceCtorEq,Int.reduceToNat,Int.reduceLT,Int.reduceLE,Int.reduceEq,Int.reduceNe,Int.reduceNeg,ustrA,ti3,ti9,ti34,ti36,ti50,ti69,ca179,ca246,cf,Tryz.results248,hA,nrows_length]
      refine condK_intro (fun h2=>?_) (fun h2=>?_)
      · have hi2 : i < ns.length:=by simp at h2; omega
        have hg:=nrows_getD hi2
        have htk : ns.take (i + 1) = ns.take i ++ [ns.getD i ([],[])]:=by rw [List.take_add_one]; simp [List.getD,hi2]
        have hi1 : IntKind.i64.wrap ((i : Int) + 1) = ((i + 1 : Nat) : Int):=by rw [wrap64 (by omega) (by omega)]; rfl
        generalize hp : ns.getD i ([],[]) = p at *
        simp only [zW,zX,zD,builtinA,isLeaf,const1,Nat.reduceAdd,Nat.reduceMul,Nat.reduceSub,Nat.reduceLT,Nat.reduceLeDiff,Nat.reduceEqDiff,Nat.reduceBEq,Nat.reduceBNe,reduceIte,reduceCtorEq,Int.reduceToNat,Int.reduceLT,Int.reduceLE,Int.reduceEq,Int.reduceNe,Int.reduceNeg,ustrA,ti3,ti9,ti34,ti36,ti50,ti69,ca179,ca246,cf,Tryz.results248,hA,hg,nrows_length]
        refine ⟨⟨by omega,by omega⟩,?_⟩
        refine aloop_intro [0,5,6,7,8] (fun e C=>∃ q,q ≤ s.length ∧ e = [(0,.slice (sEs s)),(5,.own j),(6,.int .i64 (i : Nat)),(7,.bool (!decide (p.1 = []) || hasT (s.take q) p.2)),(8,.int .i64 (q : Nat))] ∧ C = B) (fun e _=>s.length - (intOf (Abs.look 8 e)).toNat) ?_ ?_
        · simp only [zW,zX,zD,builtinA,isLeaf,const1,Nat.reduceAdd,Nat.reduceMul,Nat.reduceSub,Nat.reduceLT,Nat.reduceLeDiff,Nat.reduceEqDiff,Nat.reduceBEq,Nat.reduceBNe,reduceIte,reduceCtorEq,Int.reduceToNat,Int.reduceLT,Int.reduceLE,Int.reduceEq,Int.reduceNe,Int.reduceNeg,ustrA,ti3,ti9,ti34,ti36,ti50,ti69,ca179,ca246,cf,Tryz.results248]
          exact ⟨0,by omega,by simp [hasT]⟩
        · rintro e C ⟨q,hq2,rfl,rfl⟩
          simp only [zW,zX,zD,builtinA,isLeaf,const1,Nat.reduceAdd,Nat.reduceMul,Nat.reduceSub,Nat.reduceLT,Nat.reduceLeDiff,Nat.reduceEqDiff,Nat.reduceBEq,Nat.reduceBNe,reduceIte,reduceCtorEq,Int.reduceToNat,Int.reduceLT,Int.reduceLE,Int.reduceEq,Int.reduceNe,Int.reduceNeg,ustrA,ti3,ti9,ti34,ti36,ti50,ti69,ca179,ca246,cf,Tryz.results248,sEs_length]
          refine condK_intro (fun h3=>?_) (fun h3=>?_)
          · have hq3 : q < s.length:=by simp at h3; omega
            have hg2:=sEs_getD hq3
            have hst:=hasT_take hq3 p.2
            have hq1 : IntKind.i64.wrap ((q : Int) + 1) = ((q + 1 : Nat) : Int):=by rw [wrap64 (by omega) (by omega)]; rfl
            generalize s.getD q si0 = x at *
            have pq : (0 : Int) ≤ (q : Int) ∧ (q : Int) < (s.length : Int):=⟨by omega,by omega⟩
            have pi : (0 : Int) ≤ (i : Int) ∧ (i : Int) < (ns.length : Int):=⟨by omega,by omega⟩
            have fin : ∀ b : Bool,b = (!decide (p.1 = []) || hasT (s.take (q + 1)) p.2) → (∃ q',q' ≤ s.length ∧ [(0,AV.slice (sEs s)),(5,AV.own j),(6,AV.int .i64 (i : Nat)),(7,AV.bool b),(8,AV.int .i64 ((q + 1 : Nat) : Int))] = [(0,.slice (sEs s)),(5,.own j),(6,.int .i64 (i : Nat)),(7,.bool (!decide (p.1 = []) || hasT (s.take q') p.2)),(8,.int .i64 (q' : Nat))]):=fun b hb=>⟨q + 1,by omega,by rw [hb]⟩
            cases hb0 : (!decide (p.1 = []) || hasT (s.take q) p.2) with
            | true =>
              simp only [zW,zX,zD,builtinA,isLeaf,const1,Nat.reduceAdd,Nat.reduceMul,Nat.reduceSub,Nat.reduceLT,Nat.reduceLeDiff,Nat.reduceEqDiff,Nat.reduceBEq,Nat.reduceBNe,reduceIte,reduceCtorEq,Int.reduceToNat,Int.reduceLT,Int.reduceLE,Int.reduceEq,Int.reduceNe,Int.reduceNeg,ustrA,ti3,ti9,ti34,ti36,ti50,ti69,ca179,ca246,cf,Tryz.results248]
              refine .inl ⟨by kernel_rfl,by kernel_rfl,?_⟩
              simp only [zW,zX,zD,builtinA,isLeaf,const1,Nat.reduceAdd,Nat.reduceMul,Nat.reduceSub,Nat.reduceLT,Nat.reduceLeDiff,Nat.reduceEqDiff,Nat.reduceBEq,Nat.reduceBNe,reduceIte,reduceCtorEq,Int.reduceToNat,Int.reduceLT,Int.reduceLE,Int.reduceEq,Int.reduceNe,Int.reduceNeg,ustrA,ti3,ti9,ti34,ti36,ti50,ti69,ca179,ca246,cf,Tryz.results248,hq1,LoopK_eq]
              refine ⟨fin true (by rw [hst,← Bool.or_assoc,hb0,Bool.true_or]),?_⟩
              simp only [intOf]; omega
            | false =>
              simp only [zW,zX,zD,builtinA,isLeaf,const1,Nat.reduceAdd,Nat.reduceMul,Nat.reduceSub,Nat.reduceLT,Nat.reduceLeDiff,Nat.reduceEqDiff,Nat.reduceBEq,Nat.reduceBNe,reduceIte,reduceCtorEq,Int.reduceToNat,Int.reduceLT,Int.reduceLE,Int.reduceEq,Int.reduceNe,Int.reduceNeg,ustrA,ti3,ti9,ti34,ti36,ti50,ti69,ca179,ca246,cf,Tryz.results248,hg2,sE_length,sE_take,sEs_length]
              refine .inl ⟨by kernel_rfl,by kernel_rfl,pq,?_⟩
              refine callD_intro (by simp only [zW,zX,zD,builtinA,isLeaf,const1,Nat.reduceAdd,Nat.reduceMul,Nat.reduceSub,Nat.reduceLT,Nat.reduceLeDiff,Nat.reduceEqDiff,Nat.reduceBEq,Nat.reduceBNe,reduceIte,reduceCtorEq,Int.reduceToNat,Int.reduceLT,Int.reduceLE,Int.reduceEq,Int.reduceNe,Int.reduceNeg,ustrA,frzL_sE,Option.map_some] <;> rfl) (spec_l2IsType x _) ?_ rfl
              cases hx : isTB x with
              | false =>
                rw [hx,Bool.false_and,Bool.or_false] at hst
                simp only [zW,zX,zD,builtinA,isLeaf,const1,Nat.reduceAdd,Nat.reduceMul,Nat.reduceSub,Nat.reduceLT,Nat.reduceLeDiff,Nat.reduceEqDiff,Nat.reduceBEq,Nat.reduceBNe,reduceIte,reduceCtorEq,Int.reduceToNat,Int.reduceLT,Int.reduceLE,Int.reduceEq,Int.reduceNe,Int.reduceNeg,ustrA,ti3,ti9,ti34,ti36,ti50,ti69,ca179,ca246,cf,Tryz.results248,hq1,LoopK_eq]
                refine ⟨fin false (by rw [hst,hb0]),?_⟩
                simp only [intOf]; omega
              | true =>
                rw [hx,Bool.true_and] at hst
                simp only [sE] at hg2
                simp only [zW,zX,zD,builtinA,isLeaf,const1,Nat.reduceAdd,Nat.reduceMul,Nat.reduceSub,Nat.reduceLT,Nat.reduceLeDiff,Nat.reduceEqDiff,Nat.reduceBEq,Nat.reduceBNe,reduceIte,reduceCtorEq,Int.reduceToNat,Int.reduceLT,Int.reduceLE,Int.reduceEq,Int.reduceNe,Int.reduceNeg,ustrA,ti3,ti9,ti34,ti36,ti50,ti69,ca179,ca246,cf,Tryz.results248,hg2,hA,hg,sEs_length,nrows_length,hq1,LoopK_eq]
                refine ⟨⟨pq.1,pq.2,enc_length _⟩,by omega,pi,fin _ (by rw [hst,← Bool.or_assoc,hb0,Bool.false_or]),?_⟩
                simp only [intOf]; omega
          · have hq3 : q = s.length:=by simp at h3; omega
            subst hq3
            rw [List.take_length] at *
            cases hk : knN s p with
            | true =>
              have hk' : (!decide (p.1 = []) || hasT s p.2) = true:=hk
              rw [hk']
              simp only [zW,zX,zD,builtinA,isLeaf,const1,Nat.reduceAdd,Nat.reduceMul,Nat.reduceSub,Nat.reduceLT,Nat.reduceLeDiff,Nat.reduceEqDiff,Nat.reduceBEq,Nat.reduceBNe,reduceIte,reduceCtorEq,Int.reduceToNat,Int.reduceLT,Int.reduceLE,Int.reduceEq,Int.reduceNe,Int.reduceNeg,ustrA,ti3,ti9,ti34,ti36,ti50,ti69,ca179,ca246,cf,Tryz.results248,hi1,LoopK_eq]
              refine ⟨⟨i + 1,by omega,by rw [htk]; simp [hq,hk],rfl⟩,?_⟩
              simp only [intOf]; omega
            | false =>
              have hk' : (!decide (p.1 = []) || hasT s p.2) = false:=hk
              rw [hk']
              have hf : ns.all (knN s) = false:=by
                rw [List.all_eq_false]
                refine ⟨p,?_,by simp [hk]⟩
                rw [← hp]; simp [List.getD,hi2]
              simp only [zW,zX,zD,builtinA,isLeaf,const1,Nat.reduceAdd,Nat.reduceMul,Nat.reduceSub,Nat.reduceLT,Nat.reduceLeDiff,Nat.reduceEqDiff,Nat.reduceBEq,Nat.reduceBNe,reduceIte,reduceCtorEq,Int.reduceToNat,Int.reduceLT,Int.reduceLE,Int.reduceEq,Int.reduceNe,Int.reduceNeg,ustrA,ti3,ti9,ti34,ti36,ti50,ti69,ca179,ca246,cf,Tryz.results248]
              exact ⟨hgo.2,by rw [hf],hgo.1⟩
      · have hi2 : i = ns.length:=by simp at h2; omega
        subst hi2
        rw [List.take_length] at hq
        simp only [zW,zX,zD,builtinA,isLeaf,const1,Nat.reduceAdd,Nat.reduceMul,Nat.reduceSub,Nat.reduceLT,Nat.reduceLeDiff,Nat.reduceEqDiff,Nat.reduceBEq,Nat.reduceBNe,reduceIte,reduceCtorEq,Int.reduceToNat,Int.reduceLT,Int.reduceLE,Int.reduceEq,Int.reduceNe,Int.reduceNeg,ustrA,ti3,ti9,ti34,ti36,ti50,ti69,ca179,ca246,cf,Tryz.results248]
        exact ⟨hgo.2,by rw [hq],hgo.1⟩
end Go.Proofs.YtnjdbgiincliaaaGreat
namespace Go.Proofs.YtnjdbgiincliaaaGreat
open Go.Abs
open Classical in
noncomputable def knT (s : List SigI) (τ : Ty) : Bool:=if h : ∃ v,τ = toTy v then allV (knN s) h.choose else false
theorem toTy_one : ∀ {v v' : VT},toTy v = toTy v' → v = v'
  | .num,.num,_=>rfl
  | .num,.nm _ _,h=>by simp [toTy] at h
  | .num,.fn _ _,h=>by simp [toTy] at h
  | .nm _ _,.num,h=>by simp [toTy] at h
  | .nm _ _,.fn _ _,h=>by simp [toTy] at h
  | .fn _ _,.num,h=>by simp [toTy] at h
  | .fn _ _,.nm _ _,h=>by simp [toTy] at h
  | .nm m n,.nm m' n',h=>by simp [toTy] at h; rw [h.1,h.2]
  | .fn a b,.fn a' b',h=>by
    simp [toTy] at h
    rw [toTy_one h.1,toTy_one h.2]
theorem knT_toTy (s : List SigI) (v : VT) : knT s (toTy v) = allV (knN s) v:=by
  unfold knT
  have h : ∃ w,toTy v = toTy w:=⟨v,rfl⟩
  rw [dif_pos h,← toTy_one h.choose_spec]
def sameK (x y : SigI) : Bool:=decide (y.name = x.name) && decide (isTB y = isTB x)
def dupB (s : List SigI) (x : SigI) : Bool:=s.any (sameK x)
noncomputable def typB (s : List SigI) (x : SigI) : Bool :=
  if x.kind = 1 then decide (x.typ = ty0) else if x.kind = 2 ∨ x.kind = 3 then validB x.typ && knT s x.typ else false
noncomputable def itemB (s : List SigI) (x : SigI) : Bool:=localB x.name && (!dupB s x && typB s x)
noncomputable def sigB (s : List SigI) : Bool:=decide (s.length ≤ 8) && (List.range s.length).all fun i=>itemB (s.take i) (s.getD i si0)
set_option maxRecDepth 100000 in
theorem spec_l2Item (s : List SigI) (hs : s.length ≤ 1048576) (x : SigI) (hx : x.Ok) (hz : sz x.typ ≤ 1048576) (A : List Box) : ACalls Tryz.prog 178 [.slice (sEs s),.agg (sE x)] A (fun r A'=>r = .bool (itemB s x) ∧ A' = A):=by
  have hsx : sE x = .int .i64 x.kind :: .str x.name :: enc x.typ:=rfl
  rw [hsx]
  refine acalls_enter (cf:=cf 53 [0,1,3,4,5,9,13,33,35,36,41]) foll Tryz.func178 Tryz.ntmps178 (by simp [cf]) ?_
  simp only [Tryz.f178,EnterK_some,zW,zX,zD,builtinA,isLeaf,const1,Nat.reduceAdd,Nat.reduceMul,Nat.reduceSub,Nat.reduceLT,Nat.reduceLeDiff,Nat.reduceEqDiff,Nat.reduceBEq,Nat.reduceBNe,reduceIte,reduceCtorEq,Int.reduceToNat,Int.reduceLT,Int.reduceLE,Int.reduceEq,Int.reduceNe,Int.reduceNeg,ustrA,ti3,ti4,ti9,ti36,ti50,ti69,ca121,ca245,ca246,ca247,ca248,cf,Tryz.results178]
  refine ⟨by omega,?_⟩
  refine callK_intro (by simp only [zW,zX,zD,builtinA,isLeaf,const1,Nat.reduceAdd,Nat.reduceMul,Nat.reduceSub,Nat.reduceLT,Nat.reduceLeDiff,Nat.reduceEqDiff,Nat.reduceBEq,Nat.reduceBNe,reduceIte,reduceCtorEq,Int.reduceToNat,Int.reduceLT,Int.reduceLE,Int.reduceEq,Int.reduceNe,Int.reduceNeg,ustrA,Option.map_some]; rfl) (spec_LocalName x.name _) ?_ rfl; rintro v A' ⟨rfl,rfl⟩
  cases hl : localB x.name with
  | false =>
    simp only [zW,zX,zD,builtinA,isLeaf,const1,Nat.reduceAdd,Nat.reduceMul,Nat.reduceSub,Nat.reduceLT,Nat.reduceLeDiff,Nat.reduceEqDiff,Nat.reduceBEq,Nat.reduceBNe,reduceIte,reduceCtorEq,Int.reduceToNat,Int.reduceLT,Int.reduceLE,Int.reduceEq,Int.reduceNe,Int.reduceNeg,ustrA,ti3,ti4,ti9,ti36,ti50,ti69,ca121,ca245,ca246,ca247,ca248,cf,Tryz.results178]
    simp [itemB,hl]
  | true =>
    simp only [zW,zX,zD,builtinA,isLeaf,const1,Nat.reduceAdd,Nat.reduceMul,Nat.reduceSub,Nat.reduceLT,Nat.reduceLeDiff,Nat.reduceEqDiff,Nat.reduceBEq,Nat.reduceBNe,reduceIte,reduceCtorEq,Int.reduceToNat,Int.reduceLT,Int.reduceLE,Int.reduceEq,Int.reduceNe,Int.reduceNeg,ustrA,ti3,ti4,ti9,ti36,ti50,ti69,ca121,ca245,ca246,ca247,ca248,cf,Tryz.results178]
    refine aloop_intro [0,3,5] (fun e A'=>∃ i,i ≤ s.length ∧ dupB (s.take i) x = false ∧ e = [(0,.slice (sEs s)),(3,.ptr A.length 0),(5,.int .i64 (i : Nat))] ∧ A' = A ++ [.cells (.int .i64 x.kind :: .str x.name :: enc x.typ)]) (fun e _=>s.length - (intOf (Abs.look 5 e)).toNat) ?_ ?_
    · simp only [zW,zX,zD,builtinA,isLeaf,const1,Nat.reduceAdd,Nat.reduceMul,Nat.reduceSub,Nat.reduceLT,Nat.reduceLeDiff,Nat.reduceEqDiff,Nat.reduceBEq,Nat.reduceBNe,reduceIte,reduceCtorEq,Int.reduceToNat,Int.reduceLT,Int.reduceLE,Int.reduceEq,Int.reduceNe,Int.reduceNeg,ustrA,ti3,ti4,ti9,ti36,ti50,ti69,ca121,ca245,ca246,ca247,ca248,cf,Tryz.results178]
      exact ⟨0,by omega,by simp [dupB],rfl⟩
    · rintro e A' ⟨i,hi,hq,rfl,rfl⟩
      simp only [zW,zX,zD,builtinA,isLeaf,const1,Nat.reduceAdd,Nat.reduceMul,Nat.reduceSub,Nat.reduceLT,Nat.reduceLeDiff,Nat.reduceEqDiff,Nat.reduceBEq,Nat.reduceBNe,reduceIte,reduceCtorEq,Int.reduceToNat,Int.reduceLT,Int.reduceLE,Int.reduceEq,Int.reduceNe,Int.reduceNeg,ustrA,ti3,ti4,ti9,ti36,ti50,ti69,ca121,ca245,ca246,ca247,ca248,cf,Tryz.results178,sEs_length]
      refine condK_intro (fun h2=>?_) (fun h2=>?_)
      · have hi2 : i < s.length:=by simp at h2; omega
        have hg:=sEs_getD hi2
        have hmem:=si_mem hi2
        have htk : dupB (s.take (i + 1)) x = (dupB (s.take i) x || sameK x (s.getD i si0)):=by rw [si_take hi2]; simp [dupB]
        have hi1 : IntKind.i64.wrap ((i : Int) + 1) = ((i + 1 : Nat) : Int):=by rw [wrap64 (by omega) (by omega)]; rfl
        generalize s.getD i si0 = y at *
        have hgy : (sEs s).getD i [] = .int .i64 y.kind :: .str y.name :: enc y.typ:=hg
        have pi : (0 : Int) ≤ (i : Int) ∧ (i : Int) < (s.length : Int):=⟨by omega,by omega⟩
        simp only [zW,zX,zD,builtinA,isLeaf,const1,Nat.reduceAdd,Nat.reduceMul,Nat.reduceSub,Nat.reduceLT,Nat.reduceLeDiff,Nat.reduceEqDiff,Nat.reduceBEq,Nat.reduceBNe,reduceIte,reduceCtorEq,Int.reduceToNat,Int.reduceLT,Int.reduceLE,Int.reduceEq,Int.reduceNe,Int.reduceNeg,ustrA,ti3,ti4,ti9,ti36,ti50,ti69,ca121,ca245,ca246,ca247,ca248,cf,Tryz.results178,hgy,sEs_length,enc_length]
        refine .inl ⟨by kernel_rfl,by kernel_rfl,pi,?_⟩
        have hty : ∀ A,ACalls Tryz.prog 246 [.agg (.int .i64 y.kind :: .str y.name :: enc y.typ)] A (fun r A'=>r = .bool (isTB y) ∧ A' = A):=spec_l2IsType y
        have htx : ∀ A,ACalls Tryz.prog 246 [.agg (.int .i64 x.kind :: .str x.name :: enc x.typ)] A (fun r A'=>r = .bool (isTB x) ∧ A' = A):=spec_l2IsType x
        by_cases he : y.name = x.name
        · simp only [zW,zX,zD,builtinA,isLeaf,const1,Nat.reduceAdd,Nat.reduceMul,Nat.reduceSub,Nat.reduceLT,Nat.reduceLeDiff,Nat.reduceEqDiff,Nat.reduceBEq,Nat.reduceBNe,reduceIte,reduceCtorEq,Int.reduceToNat,Int.reduceLT,Int.reduceLE,Int.reduceEq,Int.reduceNe,Int.reduceNeg,ustrA,ti3,ti4,ti9,ti36,ti50,ti69,ca121,ca245,ca246,ca247,ca248,cf,Tryz.results178,decide_eq_true he,hgy,sEs_length,enc_length,enc_take]
          refine ⟨pi,?_⟩
          refine callD_intro (by simp only [zW,zX,zD,builtinA,isLeaf,const1,Nat.reduceAdd,Nat.reduceMul,Nat.reduceSub,Nat.reduceLT,Nat.reduceLeDiff,Nat.reduceEqDiff,Nat.reduceBEq,Nat.reduceBNe,reduceIte,reduceCtorEq,Int.reduceToNat,Int.reduceLT,Int.reduceLE,Int.reduceEq,Int.reduceNe,Int.reduceNeg,ustrA,frzL_enc,Option.map_some] <;> rfl) (hty _) ?_ rfl
          simp only [zW,zX,zD,builtinA,isLeaf,const1,Nat.reduceAdd,Nat.reduceMul,Nat.reduceSub,Nat.reduceLT,Nat.reduceLeDiff,Nat.reduceEqDiff,Nat.reduceBEq,Nat.reduceBNe,reduceIte,reduceCtorEq,Int.reduceToNat,Int.reduceLT,Int.reduceLE,Int.reduceEq,Int.reduceNe,Int.reduceNeg,ustrA,ti3,ti4,ti9,ti36,ti50,ti69,ca121,ca245,ca246,ca247,ca248,cf,Tryz.results178,enc_length,enc_take]
          refine callD_intro (by simp only [zW,zX,zD,builtinA,isLeaf,const1,Nat.reduceAdd,Nat.reduceMul,Nat.reduceSub,Nat.reduceLT,Nat.reduceLeDiff,Nat.reduceEqDiff,Nat.reduceBEq,Nat.reduceBNe,reduceIte,reduceCtorEq,Int.reduceToNat,Int.reduceLT,Int.reduceLE,Int.reduceEq,Int.reduceNe,Int.reduceNeg,ustrA,frzL_enc,Option.map_some] <;> rfl) (htx _) ?_ rfl
          simp only [zW,zX,zD,builtinA,isLeaf,const1,Nat.reduceAdd,Nat.reduceMul,Nat.reduceSub,Nat.reduceLT,Nat.reduceLeDiff,Nat.reduceEqDiff,Nat.reduceBEq,Nat.reduceBNe,reduceIte,reduceCtorEq,Int.reduceToNat,Int.reduceLT,Int.reduceLE,Int.reduceEq,Int.reduceNe,Int.reduceNeg,ustrA,ti3,ti4,ti9,ti36,ti50,ti69,ca121,ca245,ca246,ca247,ca248,cf,Tryz.results178]
          have hbb : (isTB y == isTB x) = decide (isTB y = isTB x):=by cases isTB y <;> cases isTB x <;> rfl
          rw [hbb]
          cases hb : decide (isTB y = isTB x) with
          | true =>
            have hd : dupB s x = true:=List.any_eq_true.mpr ⟨y,hmem,by simp [sameK,he,hb]⟩
            simp only [zW,zX,zD,builtinA,isLeaf,const1,Nat.reduceAdd,Nat.reduceMul,Nat.reduceSub,Nat.reduceLT,Nat.reduceLeDiff,Nat.reduceEqDiff,Nat.reduceBEq,Nat.reduceBNe,reduceIte,reduceCtorEq,Int.reduceToNat,Int.reduceLT,Int.reduceLE,Int.reduceEq,Int.reduceNe,Int.reduceNeg,ustrA,ti3,ti4,ti9,ti36,ti50,ti69,ca121,ca245,ca246,ca247,ca248,cf,Tryz.results178]
            simp [itemB,hd]
          | false =>
            have hk : sameK x y = false:=by simp [sameK,hb]
            rw [hk,Bool.or_false,hq] at htk
            simp only [zW,zX,zD,builtinA,isLeaf,const1,Nat.reduceAdd,Nat.reduceMul,Nat.reduceSub,Nat.reduceLT,Nat.reduceLeDiff,Nat.reduceEqDiff,Nat.reduceBEq,Nat.reduceBNe,reduceIte,reduceCtorEq,Int.reduceToNat,Int.reduceLT,Int.reduceLE,Int.reduceEq,Int.reduceNe,Int.reduceNeg,ustrA,ti3,ti4,ti9,ti36,ti50,ti69,ca121,ca245,ca246,ca247,ca248,cf,Tryz.results178,hi1,LoopK_eq]
            refine ⟨⟨i + 1,by omega,htk,rfl⟩,?_⟩
            simp only [intOf]; omega
        · have hk : sameK x y = false:=by simp [sameK,he]
          rw [hk,Bool.or_false,hq] at htk
          simp only [zW,zX,zD,builtinA,isLeaf,const1,Nat.reduceAdd,Nat.reduceMul,Nat.reduceSub,Nat.reduceLT,Nat.reduceLeDiff,Nat.reduceEqDiff,Nat.reduceBEq,Nat.reduceBNe,reduceIte,reduceCtorEq,Int.reduceToNat,Int.reduceLT,Int.reduceLE,Int.reduceEq,Int.reduceNe,Int.reduceNeg,ustrA,ti3,ti4,ti9,ti36,ti50,ti69,ca121,ca245,ca246,ca247,ca248,cf,Tryz.results178,decide_eq_false he,hi1,LoopK_eq]
          refine ⟨⟨i + 1,by omega,htk,rfl⟩,?_⟩
          simp only [intOf]; omega
      · have hi2 : i = s.length:=by simp at h2; omega
        subst hi2
        rw [List.take_length] at hq
        simp only [zW,zX,zD,builtinA,isLeaf,const1,Nat.reduceAdd,Nat.reduceMul,Nat.reduceSub,Nat.reduceLT,Nat.reduceLeDiff,Nat.reduceEqDiff,Nat.reduceBEq,Nat.reduceBNe,reduceIte,reduceCtorEq,Int.reduceToNat,Int.reduceLT,Int.reduceLE,Int.reduceEq,Int.reduceNe,Int.reduceNeg,ustrA,ti3,ti4,ti9,ti36,ti50,ti69,ca121,ca245,ca246,ca247,ca248,cf,Tryz.results178,enc_length,enc_take]
        have hib : itemB s x = typB s x:=by simp [itemB,hl,hq]
        rw [hib,typB]
        by_cases k1 : x.kind = 1
        · rw [if_pos k1]
          simp only [zW,zX,zD,builtinA,isLeaf,const1,Nat.reduceAdd,Nat.reduceMul,Nat.reduceSub,Nat.reduceLT,Nat.reduceLeDiff,Nat.reduceEqDiff,Nat.reduceBEq,Nat.reduceBNe,reduceIte,reduceCtorEq,Int.reduceToNat,Int.reduceLT,Int.reduceLE,Int.reduceEq,Int.reduceNe,Int.reduceNeg,ustrA,ti3,ti4,ti9,ti36,ti50,ti69,ca121,ca245,ca246,ca247,ca248,cf,Tryz.results178,decide_eq_true k1,enc_length,enc_take]
          refine callK_intro (by simp only [zW,zX,zD,builtinA,isLeaf,const1,Nat.reduceAdd,Nat.reduceMul,Nat.reduceSub,Nat.reduceLT,Nat.reduceLeDiff,Nat.reduceEqDiff,Nat.reduceBEq,Nat.reduceBNe,reduceIte,reduceCtorEq,Int.reduceToNat,Int.reduceLT,Int.reduceLE,Int.reduceEq,Int.reduceNe,Int.reduceNeg,ustrA,frzL_enc,Option.map_some]; rfl) (spec_l2Zero x.typ _) ?_ rfl; rintro v A' ⟨rfl,rfl⟩
          simp only [zW,zX,zD,builtinA,isLeaf,const1,Nat.reduceAdd,Nat.reduceMul,Nat.reduceSub,Nat.reduceLT,Nat.reduceLeDiff,Nat.reduceEqDiff,Nat.reduceBEq,Nat.reduceBNe,reduceIte,reduceCtorEq,Int.reduceToNat,Int.reduceLT,Int.reduceLE,Int.reduceEq,Int.reduceNe,Int.reduceNeg,ustrA,ti3,ti4,ti9,ti36,ti50,ti69,ca121,ca245,ca246,ca247,ca248,cf,Tryz.results178]
        · rw [if_neg k1]
          simp only [zW,zX,zD,builtinA,isLeaf,const1,Nat.reduceAdd,Nat.reduceMul,Nat.reduceSub,Nat.reduceLT,Nat.reduceLeDiff,Nat.reduceEqDiff,Nat.reduceBEq,Nat.reduceBNe,reduceIte,reduceCtorEq,Int.reduceToNat,Int.reduceLT,Int.reduceLE,Int.reduceEq,Int.reduceNe,Int.reduceNeg,ustrA,ti3,ti4,ti9,ti36,ti50,ti69,ca121,ca245,ca246,ca247,ca248,cf,Tryz.results178,decide_eq_false k1]
          have hvl:=fun A=>spec_TypeValid x.typ hx.2 hz A
          have hkn:=fun v (hv : VOk v) (hx' : x.typ = toTy v) A=>spec_l2Known s hs v hv.1 (by have:=hv.cnt; omega) A
          by_cases k2 : x.kind = 2
          · rw [if_pos (.inl k2)]
            simp only [zW,zX,zD,builtinA,isLeaf,const1,Nat.reduceAdd,Nat.reduceMul,Nat.reduceSub,Nat.reduceLT,Nat.reduceLeDiff,Nat.reduceEqDiff,Nat.reduceBEq,Nat.reduceBNe,reduceIte,reduceCtorEq,Int.reduceToNat,Int.reduceLT,Int.reduceLE,Int.reduceEq,Int.reduceNe,Int.reduceNeg,ustrA,ti3,ti4,ti9,ti36,ti50,ti69,ca121,ca245,ca246,ca247,ca248,cf,Tryz.results178,decide_eq_true k2,enc_length,enc_take]
            refine callK_intro (by simp only [zW,zX,zD,builtinA,isLeaf,const1,Nat.reduceAdd,Nat.reduceMul,Nat.reduceSub,Nat.reduceLT,Nat.reduceLeDiff,Nat.reduceEqDiff,Nat.reduceBEq,Nat.reduceBNe,reduceIte,reduceCtorEq,Int.reduceToNat,Int.reduceLT,Int.reduceLE,Int.reduceEq,Int.reduceNe,Int.reduceNeg,ustrA,frzL_enc,Option.map_some]; rfl) (hvl _) ?_ rfl; rintro v A' ⟨rfl,rfl⟩
            simp only [zW,zX,zD,builtinA,isLeaf,const1,Nat.reduceAdd,Nat.reduceMul,Nat.reduceSub,Nat.reduceLT,Nat.reduceLeDiff,Nat.reduceEqDiff,Nat.reduceBEq,Nat.reduceBNe,reduceIte,reduceCtorEq,Int.reduceToNat,Int.reduceLT,Int.reduceLE,Int.reduceEq,Int.reduceNe,Int.reduceNeg,ustrA,ti3,ti4,ti9,ti36,ti50,ti69,ca121,ca245,ca246,ca247,ca248,cf,Tryz.results178]
            rcases valid_cases x.typ with ⟨v,hxv,hv⟩ | hv
            · have hva : validB x.typ = true:=by rw [hxv]; exact validB_toTy hv
              have hkt : knT s x.typ = allV (knN s) v:=by rw [hxv]; exact knT_toTy s v
              simp only [zW,zX,zD,builtinA,isLeaf,const1,Nat.reduceAdd,Nat.reduceMul,Nat.reduceSub,Nat.reduceLT,Nat.reduceLeDiff,Nat.reduceEqDiff,Nat.reduceBEq,Nat.reduceBNe,reduceIte,reduceCtorEq,Int.reduceToNat,Int.reduceLT,Int.reduceLE,Int.reduceEq,Int.reduceNe,Int.reduceNeg,ustrA,ti3,ti4,ti9,ti36,ti50,ti69,ca121,ca245,ca246,ca247,ca248,cf,Tryz.results178,hva,enc_length,enc_take]
              rw [hxv]
              refine callK_intro (by simp only [zW,zX,zD,builtinA,isLeaf,const1,Nat.reduceAdd,Nat.reduceMul,Nat.reduceSub,Nat.reduceLT,Nat.reduceLeDiff,Nat.reduceEqDiff,Nat.reduceBEq,Nat.reduceBNe,reduceIte,reduceCtorEq,Int.reduceToNat,Int.reduceLT,Int.reduceLE,Int.reduceEq,Int.reduceNe,Int.reduceNeg,ustrA,frzL_enc,Option.map_some]; rfl) (hkn v hv hxv _) ?_ rfl; rintro v A' ⟨rfl,rfl⟩
              simp only [zW,zX,zD,builtinA,isLeaf,const1,Nat.reduceAdd,Nat.reduceMul,Nat.reduceSub,Nat.reduceLT,Nat.reduceLeDiff,Nat.reduceEqDiff,Nat.reduceBEq,Nat.reduceBNe,reduceIte,reduceCtorEq,Int.reduceToNat,Int.reduceLT,Int.reduceLE,Int.reduceEq,Int.reduceNe,Int.reduceNeg,ustrA,ti3,ti4,ti9,ti36,ti50,ti69,ca121,ca245,ca246,ca247,ca248,cf,Tryz.results178]
              rw [← hxv,hkt]
            · simp only [zW,zX,zD,builtinA,isLeaf,const1,Nat.reduceAdd,Nat.reduceMul,Nat.reduceSub,Nat.reduceLT,Nat.reduceLeDiff,Nat.reduceEqDiff,Nat.reduceBEq,Nat.reduceBNe,reduceIte,reduceCtorEq,Int.reduceToNat,Int.reduceLT,Int.reduceLE,Int.reduceEq,Int.reduceNe,Int.reduceNeg,ustrA,ti3,ti4,ti9,ti36,ti50,ti69,ca121,ca245,ca246,ca247,ca248,cf,Tryz.results178,hv]
          · simp only [zW,zX,zD,builtinA,isLeaf,const1,Nat.reduceAdd,Nat.reduceMul,Nat.reduceSub,Nat.reduceLT,Nat.reduceLeDiff,Nat.reduceEqDiff,Nat.reduceBEq,Nat.reduceBNe,reduceIte,reduceCtorEq,Int.reduceToNat,Int.reduceLT,Int.reduceLE,Int.reduceEq,Int.reduceNe,Int.reduceNeg,ustrA,ti3,ti4,ti9,ti36,ti50,ti69,ca121,ca245,ca246,ca247,ca248,cf,Tryz.results178,decide_eq_false k2]
            by_cases k3 : x.kind = 3
            · rw [if_pos (.inr k3)]
              simp only [zW,zX,zD,builtinA,isLeaf,const1,Nat.reduceAdd,Nat.reduceMul,Nat.reduceSub,Nat.reduceLT,Nat.reduceLeDiff,Nat.reduceEqDiff,Nat.reduceBEq,Nat.reduceBNe,reduceIte,reduceCtorEq,Int.reduceToNat,Int.reduceLT,Int.reduceLE,Int.reduceEq,Int.reduceNe,Int.reduceNeg,ustrA,ti3,ti4,ti9,ti36,ti50,ti69,ca121,ca245,ca246,ca247,ca248,cf,Tryz.results178,decide_eq_true k3,enc_length,enc_take]
              refine callK_intro (by simp only [zW,zX,zD,builtinA,isLeaf,const1,Nat.reduceAdd,Nat.reduceMul,Nat.reduceSub,Nat.reduceLT,Nat.reduceLeDiff,Nat.reduceEqDiff,Nat.reduceBEq,Nat.reduceBNe,reduceIte,reduceCtorEq,Int.reduceToNat,Int.reduceLT,Int.reduceLE,Int.reduceEq,Int.reduceNe,Int.reduceNeg,ustrA,frzL_enc,Option.map_some]; rfl) (hvl _) ?_ rfl; rintro v A' ⟨rfl,rfl⟩
              simp only [zW,zX,zD,builtinA,isLeaf,const1,Nat.reduceAdd,Nat.reduceMul,Nat.reduceSub,Nat.reduceLT,Nat.reduceLeDiff,Nat.reduceEqDiff,Nat.reduceBEq,Nat.reduceBNe,reduceIte,reduceCtorEq,Int.reduceToNat,Int.reduceLT,Int.reduceLE,Int.reduceEq,Int.reduceNe,Int.reduceNeg,ustrA,ti3,ti4,ti9,ti36,ti50,ti69,ca121,ca245,ca246,ca247,ca248,cf,Tryz.results178]
              rcases valid_cases x.typ with ⟨v,hxv,hv⟩ | hv
              · have hva : validB x.typ = true:=by rw [hxv]; exact validB_toTy hv
                have hkt : knT s x.typ = allV (knN s) v:=by rw [hxv]; exact knT_toTy s v
                simp only [zW,zX,zD,builtinA,isLeaf,const1,Nat.reduceAdd,Nat.reduceMul,Nat.reduceSub,Nat.reduceLT,Nat.reduceLeDiff,Nat.reduceEqDiff,Nat.reduceBEq,Nat.reduceBNe,reduceIte,reduceCtorEq,Int.reduceToNat,Int.reduceLT,Int.reduceLE,Int.reduceEq,Int.reduceNe,Int.reduceNeg,ustrA,ti3,ti4,ti9,ti36,ti50,ti69,ca121,ca245,ca246,ca247,ca248,cf,Tryz.results178,hva,enc_length,enc_take]
                rw [hxv]
                refine callK_intro (by simp only [zW,zX,zD,builtinA,isLeaf,const1,Nat.reduceAdd,Nat.reduceMul,Nat.reduceSub,Nat.reduceLT,Nat.reduceLeDiff,Nat.reduceEqDiff,Nat.reduceBEq,Nat.reduceBNe,reduceIte,reduceCtorEq,Int.reduceToNat,Int.reduceLT,Int.reduceLE,Int.reduceEq,Int.reduceNe,Int.reduceNeg,ustrA,frzL_enc,Option.map_some]; rfl) (hkn v hv hxv _) ?_ rfl; rintro v A' ⟨rfl,rfl⟩
                simp only [zW,zX,zD,builtinA,isLeaf,const1,Nat.reduceAdd,Nat.reduceMul,Nat.reduceSub,Nat.reduceLT,Nat.reduceLeDiff,Nat.reduceEqDiff,Nat.reduceBEq,Nat.reduceBNe,reduceIte,reduceCtorEq,Int.reduceToNat,Int.reduceLT,Int.reduceLE,Int.reduceEq,Int.reduceNe,Int.reduceNeg,ustrA,ti3,ti4,ti9,ti36,ti50,ti69,ca121,ca245,ca246,ca247,ca248,cf,Tryz.results178]
                rw [← hxv,hkt]
              · simp only [zW,zX,zD,builtinA,isLeaf,const1,Nat.reduceAdd,Nat.reduceMul,Nat.reduceSub,Nat.reduceLT,Nat.reduceLeDiff,Nat.reduceEqDiff,Nat.reduceBEq,Nat.reduceBNe,reduceIte,reduceCtorEq,Int.reduceToNat,Int.reduceLT,Int.reduceLE,Int.reduceEq,Int.reduceNe,Int.reduceNeg,ustrA,ti3,ti4,ti9,ti36,ti50,ti69,ca121,ca245,ca246,ca247,ca248,cf,Tryz.results178,hv]
            · rw [if_neg (by simp [k2,k3])]
              simp only [zW,zX,zD,builtinA,isLeaf,const1,Nat.reduceAdd,Nat.reduceMul,Nat.reduceSub,Nat.reduceLT,Nat.reduceLeDiff,Nat.reduceEqDiff,Nat.reduceBEq,Nat.reduceBNe,reduceIte,reduceCtorEq,Int.reduceToNat,Int.reduceLT,Int.reduceLE,Int.reduceEq,Int.reduceNe,Int.reduceNeg,ustrA,ti3,ti4,ti9,ti36,ti50,ti69,ca121,ca245,ca246,ca247,ca248,cf,Tryz.results178,decide_eq_false k3]
theorem sigB_no {s : List SigI} {i : Nat} (hi : i < s.length) (h : itemB (s.take i) (s.getD i si0) = false) : sigB s = false:=by
  unfold sigB
  have : ((List.range s.length).all fun i=>itemB (s.take i) (s.getD i si0)) = false:=by
    rw [List.all_eq_false]
    exact ⟨i,List.mem_range.mpr hi,by rw [h]; simp⟩
  rw [this,Bool.and_false]
theorem sE_len (x : SigI) : (sE x).length = 6:=by simp [sE,enc_length]
theorem rows_sEs (s : List SigI) : ∀ r ∈ sEs s,r.length = 6:=by
  intro r hr
  obtain ⟨x,_,rfl⟩:=List.mem_map.mp hr
  exact sE_len x
theorem take_sEs (s : List SigI) (i : Nat) : (sEs s).take i = sEs (s.take i):=by simp [sEs,List.map_take]
set_option maxRecDepth 100000 in
theorem spec_SigValid (s : List SigI) (hs : s.length ≤ 1048576) (ho : ∀ x ∈ s,x.Ok ∧ sz x.typ ≤ 1048576) (A : List Box) : ACalls Tryz.prog 87 [.slice (sEs s)] A (fun r A'=>r = .bool (sigB s) ∧ A' = A):=by
  refine acalls_enter (cf:=cf 26 [0,2,3,11,22]) foll Tryz.func87 Tryz.ntmps87 (by simp [cf]) ?_
  simp only [Tryz.f87,EnterK_some,zW,zX,zD,builtinA,isLeaf,const1,Nat.reduceAdd,Nat.reduceMul,Nat.reduceSub,Nat.reduceLT,Nat.reduceLeDiff,Nat.reduceEqDiff,Nat.reduceBEq,Nat.reduceBNe,reduceIte,reduceCtorEq,Int.reduceToNat,Int.reduceLT,Int.reduceLE,Int.reduceEq,Int.reduceNe,Int.reduceNeg,ustrA,ti3,ti50,ti69,ca178,cf,Tryz.results87]
  refine aloop_intro [0,3] (fun e A'=>∃ i,i ≤ s.length ∧ i ≤ 9 ∧ (∀ k,k < i → itemB (s.take k) (s.getD k si0) = true) ∧ e = [(0,.slice (sEs s)),(3,.int .i64 (i : Nat))] ∧ A' = A) (fun e _=>s.length - (intOf (Abs.look 3 e)).toNat) ?_ ?_
  · simp only [zW,zX,zD,builtinA,isLeaf,const1,Nat.reduceAdd,Nat.reduceMul,Nat.reduceSub,Nat.reduceLT,Nat.reduceLeDiff,Nat.reduceEqDiff,Nat.reduceBEq,Nat.reduceBNe,reduceIte,reduceCtorEq,Int.reduceToNat,Int.reduceLT,Int.reduceLE,Int.reduceEq,Int.reduceNe,Int.reduceNeg,ustrA,ti3,ti50,ti69,ca178,cf,Tryz.results87]
    exact ⟨0,by omega,by omega,fun k hk=>by omega,rfl⟩
  · rintro e A' ⟨i,hi,hi9,hq,rfl,rfl⟩
    by_cases hlt : i < s.length
    · have d1 : decide ((i : Int) < (s.length : Int)) = true:=by simp; omega
      have hlt' : 0 ≤ (i : Int) ∧ (i : Int) < (s.length : Int):=by omega
      by_cases h8 : i ≤ 8
      · have d2 : decide ((i : Int) ≤ 8) = true:=by simp; omega
        have hmem:=si_mem hlt
        have hg:=sEs_getD hlt
        have hit:=spec_l2Item (s.take i) (by simp; omega) (s.getD i si0) (ho _ hmem).1 (ho _ hmem).2
        rw [← hg] at hit
        have hi1 : IntKind.i64.wrap ((i : Int) + 1) = ((i + 1 : Nat) : Int):=by rw [wrap64 (by omega) (by omega)]; rfl
        have p1 : (0 : Int) ≤ (i : Int) ∧ (i : Int) ≤ (s.length : Int):=by omega
        simp only [zW,zX,zD,builtinA,isLeaf,const1,Nat.reduceAdd,Nat.reduceMul,Nat.reduceSub,Nat.reduceLT,Nat.reduceLeDiff,Nat.reduceEqDiff,Nat.reduceBEq,Nat.reduceBNe,reduceIte,reduceCtorEq,Int.reduceToNat,Int.reduceLT,Int.reduceLE,Int.reduceEq,Int.reduceNe,Int.reduceNeg,ustrA,ti3,ti50,ti69,ca178,cf,Tryz.results87,sEs_length,d1,d2]
        refine .inl ⟨by kernel_rfl,by kernel_rfl,?_⟩
        simp only [zW,zX,zD,builtinA,isLeaf,const1,Nat.reduceAdd,Nat.reduceMul,Nat.reduceSub,Nat.reduceLT,Nat.reduceLeDiff,Nat.reduceEqDiff,Nat.reduceBEq,Nat.reduceBNe,reduceIte,reduceCtorEq,Int.reduceToNat,Int.reduceLT,Int.reduceLE,Int.reduceEq,Int.reduceNe,Int.reduceNeg,ustrA,ti3,ti50,ti69,ca178,cf,Tryz.results87,sEs_length,take_sEs]
        have l6 : ((sEs s).getD i []).length = 6:=by rw [hg,sE_len]
        rw [List.take_of_length_le (by omega : ((sEs s).getD i []).length ≤ 6)]
        refine ⟨⟨rows_sEs s,p1⟩,⟨hlt'.1,hlt'.2,l6⟩,by omega,?_⟩
        rw [hg]
        rw [hg] at hit
        refine callD_intro (by simp only [zW,zX,zD,builtinA,isLeaf,const1,Nat.reduceAdd,Nat.reduceMul,Nat.reduceSub,Nat.reduceLT,Nat.reduceLeDiff,Nat.reduceEqDiff,Nat.reduceBEq,Nat.reduceBNe,reduceIte,reduceCtorEq,Int.reduceToNat,Int.reduceLT,Int.reduceLE,Int.reduceEq,Int.reduceNe,Int.reduceNeg,ustrA,Option.map_some,frzL_sE] <;> rfl) (hit _) ?_ rfl
        simp only [zW,zX,zD,builtinA,isLeaf,const1,Nat.reduceAdd,Nat.reduceMul,Nat.reduceSub,Nat.reduceLT,Nat.reduceLeDiff,Nat.reduceEqDiff,Nat.reduceBEq,Nat.reduceBNe,reduceIte,reduceCtorEq,Int.reduceToNat,Int.reduceLT,Int.reduceLE,Int.reduceEq,Int.reduceNe,Int.reduceNeg,ustrA,ti3,ti50,ti69,ca178,cf,Tryz.results87]
        cases hb : itemB (s.take i) (s.getD i si0) with
        | false =>
          simp only [zW,zX,zD,builtinA,isLeaf,const1,Nat.reduceAdd,Nat.reduceMul,Nat.reduceSub,Nat.reduceLT,Nat.reduceLeDiff,Nat.reduceEqDiff,Nat.reduceBEq,Nat.reduceBNe,reduceIte,reduceCtorEq,Int.reduceToNat,Int.reduceLT,Int.reduceLE,Int.reduceEq,Int.reduceNe,Int.reduceNeg,ustrA,ti3,ti50,ti69,ca178,cf,Tryz.results87,Bool.not_false]
          rw [sigB_no hlt hb]
        | true =>
          simp only [zW,zX,zD,builtinA,isLeaf,const1,Nat.reduceAdd,Nat.reduceMul,Nat.reduceSub,Nat.reduceLT,Nat.reduceLeDiff,Nat.reduceEqDiff,Nat.reduceBEq,Nat.reduceBNe,reduceIte,reduceCtorEq,Int.reduceToNat,Int.reduceLT,Int.reduceLE,Int.reduceEq,Int.reduceNe,Int.reduceNeg,ustrA,ti3,ti50,ti69,ca178,cf,Tryz.results87,Bool.not_true,hi1,LoopK_eq]
          refine ⟨⟨i + 1,by omega,by omega,fun k hk=>?_,rfl⟩,?_⟩
          · rcases Nat.lt_succ_iff_lt_or_eq.mp hk with h | rfl
            · exact hq k h
            · exact hb
          · simp only [intOf]; omega
      · have d2 : decide ((i : Int) ≤ 8) = false:=by simp; omega
        simp only [zW,zX,zD,builtinA,isLeaf,const1,Nat.reduceAdd,Nat.reduceMul,Nat.reduceSub,Nat.reduceLT,Nat.reduceLeDiff,Nat.reduceEqDiff,Nat.reduceBEq,Nat.reduceBNe,reduceIte,reduceCtorEq,Int.reduceToNat,Int.reduceLT,Int.reduceLE,Int.reduceEq,Int.reduceNe,Int.reduceNeg,ustrA,ti3,ti50,ti69,ca178,cf,Tryz.results87,sEs_length,d1,d2]
        have : sigB s = false:=by simp [sigB,show ¬ s.length ≤ 8 by omega]
        rw [this]
        simp; omega
    · have d1 : decide ((i : Int) < (s.length : Int)) = false:=by simp; omega
      simp only [zW,zX,zD,builtinA,isLeaf,const1,Nat.reduceAdd,Nat.reduceMul,Nat.reduceSub,Nat.reduceLT,Nat.reduceLeDiff,Nat.reduceEqDiff,Nat.reduceBEq,Nat.reduceBNe,reduceIte,reduceCtorEq,Int.reduceToNat,Int.reduceLT,Int.reduceLE,Int.reduceEq,Int.reduceNe,Int.reduceNeg,ustrA,ti3,ti50,ti69,ca178,cf,Tryz.results87,sEs_length,d1]
      have e : i = s.length:=by omega
      subst e
      have : sigB s = decide (s.length ≤ 8):=by
        unfold sigB
        rw [show ((List.range s.length).all fun i=>itemB (s.take i) (s.getD i si0)) = true from by
          rw [List.all_eq_true]
          intro k hk
          exact hq k (List.mem_range.mp hk),Bool.and_true]
      rw [this]
      congr 1
      rw [Bool.eq_iff_iff]; simp; omega
end Go.Proofs.YtnjdbgiincliaaaGreat
