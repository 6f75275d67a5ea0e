/- OwnNs, HasM, Jf. -/
import Derived.Test.YtnjdbgiincliaaaGreatR13
import Derived.Test.YtnjdbgiincliaaaGreatAbsW3
import Derived.Test.YtnjdbgiincliaaaGreatRows
/- Names that are owned: views, marks, and what a call keeps of new memory. -/
set_option linter.unusedVariables false
set_option linter.unusedSimpArgs false
namespace Go.Proofs.YtnjdbgiincliaaaGreat
open Go.Abs Go.RowKit
theorem HRel.sub {G : Ghost} {A A2 : List Box} {w : World} {base : Nat} (h : HRel G A w base) (hl : A2.length = A.length) (hs : ∀ i,A2.getD i .dead = A.getD i .dead ∨ A2.getD i .dead = .dead) : HRel G A2 w base:=by
  have aux : ∀ k,(A2.getD k .dead).live = true → A2.getD k .dead = A.getD k .dead:=fun k lk=>by
    rcases hs k with h | h
    · exact h
    · rw [h] at lk; cases lk
  refine ⟨by rw [hl]; exact h.n,fun j hj=>?_,fun j k hj hk hne lj lk=>?_,fun j hj lj=>?_,h.imm,h.low,h.gv⟩
  · rcases hs j with e | e
    · rw [e]; exact h.box j (by omega)
    · rw [e]; trivial
  · exact h.sep j k (by omega) (by omega) hne (by rw [← aux j lj]; exact lj) (by rw [← aux k lk]; exact lk)
  · exact h.bnd j (by omega) (by rw [← aux j lj]; exact lj)
theorem ACalls.sub {P : Program} {f : FuncId} {args : List AV} {A : List Box} {R R' : AV → List Box → Prop} (h : ACalls P f args A R)
    (hr : ∀ r A',R r A' → ∃ A2,A2.length = A'.length ∧ (∀ i,A2.getD i .dead = A'.getD i .dead ∨ A2.getD i .dead = .dead) ∧ R' r A2) : ACalls P f args A R' :=
  fun G w base xs h1 h2=>(h G w base xs h1 h2).mono fun e w' ⟨x,v,A',G',a1,a2,a3,a4,a5⟩=>by
    obtain ⟨A2,b1,b2,b3⟩:=hr v A' a2
    exact ⟨x,v,A2,G',a1,b3,a3,HRel.sub a4 b1 b2,a5⟩
def NsOut (A : List Box) (l : Nms) (r : AV) (A' : List Box) : Prop:=∃ n,(l = [] ∧ r = .nils ∧ A' = A ++ List.replicate n .dead) ∨ ∃ j,j < n ∧ r = .own (A.length + j) ∧ A' = A ++ (List.replicate n Box.dead).set j (.row 1 (aEs l) 0)
theorem aEs_ifree (l : Nms) : (aEs l).all ifrees = true:=by
  rw [List.all_eq_true]
  intro r hr
  obtain ⟨s,_,rfl⟩:=List.mem_map.1 hr
  rfl
theorem NsOut.view {f : FuncId} {args args' : List AV} {l : Nms} (h : ∀ A,ACalls Tryz.prog f args' A (NsOut A l)) {A : List Box} (hv : Views A args args') : ACalls Tryz.prog f args A (NsOut A l):=by
  refine ACalls.borrow hv ((h _).mono ?_)
  rintro r A' ⟨n,⟨h1,rfl,rfl⟩ | ⟨j,hj,rfl,rfl⟩⟩
  · refine ⟨_,rfl,rfl,fun b hb=>?_,n,.inl ⟨h1,rfl,rfl⟩⟩
    rw [(List.mem_replicate.1 hb).2]; rfl
  · refine ⟨_,rfl,rfl,fun b hb=>?_,n,.inr ⟨j,hj,by rw [deads_length],rfl⟩⟩
    rcases List.mem_or_eq_of_mem_set hb with hb | rfl
    · rw [(List.mem_replicate.1 hb).2]; rfl
    · simp [ifreeB,aEs_ifree]
def OwnN (A : List Box) (l : Nms) (v : AV) (S : List Nat) : Prop:=(l = [] ∧ v = .nils ∧ S = []) ∨ ∃ j,v = .own j ∧ S = [j] ∧ A.getD j .dead = .row 1 (aEs l) 0
theorem OwnN.frame {A A' : List Box} {l : Nms} {v : AV} {S : List Nat} (h : OwnN A l v S) (hf : ∀ i ∈ S,A'.getD i .dead = A.getD i .dead) : OwnN A' l v S:=by
  rcases h with h | ⟨j,rfl,rfl,hb⟩
  · exact .inl h
  · exact .inr ⟨j,rfl,rfl,by rw [hf j (by simp)]; exact hb⟩
theorem OwnN.low {A : List Box} {l : Nms} {v : AV} {S : List Nat} (h : OwnN A l v S) : ∀ i ∈ S,i < A.length:=by
  rcases h with ⟨_,_,rfl⟩ | ⟨j,rfl,rfl,hb⟩
  · simp
  · intro i hi
    rw [List.mem_singleton.1 hi]
    exact live_lt hb (by simp)
theorem aEs_leaf (l : Nms) : ∀ r ∈ aEs l,r.length = 1 ∧ ∀ v ∈ r,isLeaf v = true:=by
  intro r hr
  obtain ⟨s,_,rfl⟩:=List.mem_map.1 hr
  exact ⟨rfl,fun v hv=>by rw [List.mem_singleton.1 hv]; rfl⟩
theorem OwnN.view {A : List Box} {l : Nms} {v : AV} {S : List Nat} (h : OwnN A l v S) : View A v (.slice (aEs l)):=by
  rcases h with ⟨rfl,rfl,_⟩ | ⟨j,rfl,_,hb⟩
  · exact .nils
  · refine .row j 1 0 (aEs l) (aEs l) hb rfl (aEs_leaf l) fun k i hk hi=>.leaf _ ?_
    have:=aEs_leaf l _ (Abs.getD_mem (d:=[]) hk)
    exact this.2 _ (Abs.getD_mem (by omega))
theorem NsOut.own {A A' : List Box} {l : Nms} {r : AV} (h : NsOut A l r A') : ∃ B S,A' = A ++ B ∧ OwnN A' l r S ∧ ∀ i ∈ S,A.length ≤ i ∧ i < A'.length:=by
  obtain ⟨n,⟨h1,rfl,rfl⟩ | ⟨j,hj,rfl,rfl⟩⟩:=h
  · exact ⟨_,[],rfl,.inl ⟨h1,rfl,rfl⟩,by simp⟩
  · refine ⟨_,[A.length + j],rfl,.inr ⟨_,rfl,rfl,?_⟩,by simp; omega⟩
    rw [Abs.getD_append_right (by omega),Nat.add_sub_cancel_left]
    exact Abs.getD_set_self (by simpa using hj)
theorem ns_out {f : FuncId} {args : List AV} {A : List Box} {l : Nms} (h : ACalls Tryz.prog f args A (fun r A'=>∃ B,A' = A ++ B ∧ ((l = [] ∧ r = .nils) ∨ ∃ j,r = .own (A.length + j) ∧ j < B.length ∧ B.getD j .dead = .row 1 (aEs l) 0))) : ACalls Tryz.prog f args A (NsOut A l):=by
  refine ACalls.sub h fun r A' ⟨B,hA,h⟩=>?_
  subst hA
  have lo : ∀ (C : List Box) i,i < A.length → (A ++ C).getD i .dead = (A ++ B).getD i .dead:=fun C i hi=>by rw [Abs.getD_append_left hi,Abs.getD_append_left hi]
  rcases h with ⟨h1,h2⟩ | ⟨j,rfl,hj,hb⟩
  · refine ⟨A ++ List.replicate B.length .dead,by simp,fun i=>?_,B.length,.inl ⟨h1,h2,rfl⟩⟩
    by_cases hi : i < A.length
    · exact .inl (lo _ i hi)
    · refine .inr ?_
      rw [Abs.getD_append_right (by omega),List.getD_eq_getElem?_getD,List.getElem?_replicate]
      split <;> rfl
  · refine ⟨A ++ (List.replicate B.length Box.dead).set j (.row 1 (aEs l) 0),by simp,fun i=>?_,B.length,.inr ⟨j,hj,rfl,rfl⟩⟩
    by_cases hi : i < A.length
    · exact .inl (lo _ i hi)
    · rw [Abs.getD_append_right (by omega),Abs.getD_append_right (by omega)]
      by_cases hij : j = i - A.length
      · refine .inl ?_
        rw [← hij,hb]
        exact Abs.getD_set_self (by simpa using hj)
      · refine .inr ?_
        rw [Abs.getD_set_ne' hij,List.getD_eq_getElem?_getD,List.getElem?_replicate]
        split <;> rfl
end Go.Proofs.YtnjdbgiincliaaaGreat
/- The laws' searches among texts; the modules of a signature are few. -/
set_option linter.unusedVariables false
set_option linter.unusedSimpArgs false
namespace Go.Proofs.YtnjdbgiincliaaaGreat
open Go.Abs Go.RowKit
theorem mem_drop_step {l : Nms} {i : Nat} {q : List UInt8} (h : i < l.length) : q ∈ l.drop i ↔ l.getD i [] = q ∨ q ∈ l.drop (i + 1):=by
  have : l.drop i = l.getD i [] :: l.drop (i + 1):=by
    have : l.getD i [] = l[i]:=by simp [List.getD,h]
    rw [this,List.getElem_cons_drop h]
  rw [this,List.mem_cons]
  exact ⟨fun h=>h.imp Eq.symm id,fun h=>h.imp Eq.symm id⟩
set_option maxRecDepth 100000 in
theorem laws_mkHas (l : Nms) (hl : l.length < 2 ^ 63) (q : List UInt8) (A : List Box) : ACalls Tryz.prog 35 [.slice (aEs l),.str q] A (fun v A'=>v = .bool (decide (q ∈ l)) ∧ A' = A):=by
  refine acalls_enter (cf:=cf 18 [0,1,4,5,9,17]) foll Tryz.func35 Tryz.ntmps35 (by simp [cf]) ?_
  simp only [Tryz.f35,EnterK_some,zW,zX,zD,builtinA,isLeaf,const1,ustrA,simprocAttr,ti3,ti9,ti48,cf,Tryz.results35]
  refine aloop_intro [0,1,5] (fun e A'=>∃ i,i ≤ l.length ∧ decide (q ∈ l) = decide (q ∈ l.drop i) ∧ e = [(0,.slice (aEs l)),(1,.str q),(5,.int .i64 (i : Nat))] ∧ A' = A) (fun e _=>l.length - (intOf (Abs.look 5 e)).toNat) ?_ ?_
  · simp only [zW,zX,zD,builtinA,isLeaf,const1,ustrA,simprocAttr,ti3,ti9,ti48,cf,Tryz.results35]
    exact ⟨0,by omega,by simp,rfl⟩
  · rintro e A' ⟨i,hi,hq,rfl,rfl⟩
    by_cases hlt : i < l.length
    · have d1 : decide ((i : Int) < (l.length : Int)) = true:=decide_eq_true (by omega)
      have pi : 0 ≤ (i : Int) ∧ (i : Int) < (l.length : Int):=by omega
      have hg:=aEs_getD hlt
      have hi1 : IntKind.i64.wrap ((i : Int) + 1) = ((i + 1 : Nat) : Int):=by rw [wrap64 (by omega) (by omega)]; rfl
      have hm:=mem_drop_step (q:=q) hlt
      generalize l.getD i [] = x at *
      by_cases hx : x = q
      · have e : decide (q ∈ l.drop i) = true:=decide_eq_true (hm.2 (.inl hx))
        rw [e] at hq
        simp only [zW,zX,zD,builtinA,isLeaf,const1,ustrA,simprocAttr,ti3,ti9,ti48,cf,Tryz.results35,aEs_length,d1,hg,decide_eq_true hx]
        exact ⟨pi,by rw [hq]⟩
      · have e : decide (q ∈ l.drop i) = decide (q ∈ l.drop (i + 1)):=by
          rw [Bool.eq_iff_iff]; simp only [decide_eq_true_eq]
          exact ⟨fun h=>(hm.1 h).resolve_left hx,fun h=>hm.2 (.inr h)⟩
        rw [e] at hq
        simp only [zW,zX,zD,builtinA,isLeaf,const1,ustrA,simprocAttr,ti3,ti9,ti48,cf,Tryz.results35,aEs_length,d1,hg,decide_eq_false hx,hi1,LoopK_eq]
        refine ⟨pi,⟨i + 1,by omega,hq,rfl⟩,?_⟩
        simp only [intOf]; omega
    · have d1 : decide ((i : Int) < (l.length : Int)) = false:=decide_eq_false (by omega)
      have e : l.drop i = []:=List.drop_of_length_le (by omega)
      rw [e] at hq
      simp only [zW,zX,zD,builtinA,isLeaf,const1,ustrA,simprocAttr,ti3,ti9,ti48,cf,Tryz.results35,aEs_length,d1]
      rw [hq]; simp
theorem md_small3 {s : List SigI} {l : Nms} (h : MdIs s l) : l.length ≤ 1000:=by
  rcases h with ⟨ys,h1,h2,_,rfl⟩ | ⟨_,rfl⟩
  · have h3:=(mdIs_of h1).1
    have h4:=insMs_len (mdIs ys) []
    have:=h1.1
    simp [srt] at h4 ⊢
    omega
  · simp
theorem md_ex3 (s : List SigI) : ∃ l,MdIs s l:=by
  cases h : sigB s with
  | true=>obtain ⟨ys,h1,h2,h3⟩:=rd_yes h; exact ⟨_,.inl ⟨ys,h2,h1,h3,rfl⟩⟩
  | false=>exact ⟨[],.inr ⟨h,rfl⟩⟩
end Go.Proofs.YtnjdbgiincliaaaGreat
/- The facts of a claim, one by one: a great program's do not fit into one check. -/
set_option linter.unusedVariables false
namespace Go.Proofs.YtnjdbgiincliaaaGreat
open Go.Abs Go.RowKit Go.ChangeShapes Go.WideShapes Go.ChangeAt Go.ChangeMaps
open Program Func OpenClaim in
theorem jf_of {P : Program} {f : FuncId} {fn : Func} {s : ChangeSpec} {c : OpenClaim} (h0 : (c.wf (OpenSpec.ofChange s)) = true) (h1 : (laidOutB P) = true) (h2 : (mapsRowed P) = true) (h3 : (fn.params.all (P.readableRec ·)) = true) (h4 : (namedTie P c.named s.vars) = true) (h5 : ((c.stops == [])) = true) (h6 : ((P.stops == [])) = true) (h7 : ((c.knobs == [])) = true) (h8 : ((P.stopKnobs == [])) = true) (h9 : ((c.inPlace == P.inPlace f)) = true) (h10 : ((c.unfollowed == P.unfollowed f)) = true) (h11 : ((c.recurses == P.recurses f)) = true) (h12 : ((c.named == P.varsNamed f)) = true) (h13 : ((c.maps == (fn.params.toList ++ s.plain.varTypes P).any (P.mapsRec ·))) = true) (h14 : ((c.ifaces == (fn.params.toList ++ s.plain.varTypes P).any (P.ifacesRec ·))) = true) (h15 : ((c.mapsOut == P.mapsAmong fn.resultTypes.toList)) = true) (h16 : ((c.loops == (fn.params.toList ++ s.plain.varTypes P).any (P.loopsFrom ·))) = true) (h17 : ((c.wideKeys == (fn.params.toList ++ s.plain.varTypes P ++ fn.resultTypes.toList).any (P.wideKeysFrom ·))) = true) (h18 : (s.vars.all (P.varReadable ·)) = true) (h19 : (fn.resultTypes.all (fun t=>P.readableRec t && decide (t < P.types.size))) = true) (h20 : ((c.ifacesOut == fn.resultTypes.toList.any (P.ifacesRec ·))) = true) (h21 : ((c.loopsOut == fn.resultTypes.toList.any (P.loopsFrom ·))) = true) (h22 : ((c.plainKeys == P.plainKeys)) = true) (h23 : (c.shortTexts.isNone) = true) (h24 : (P.stopsHeard) = true) (h25 : (P.mayEnter) = true) (h26 : ((c.lifted == P.liftsFinal)) = true) (h27 : ((P.make == some c.make)) = true) (h28 : ((c.kinds == (if c.domain.isEmpty then [] else fn.params.toList.map fun t=>match P.underlying t with | some (.int k)=>some k | _=>none))) = true) (h29 : ((c.pinned == c.pinnedBy)) = true) (h30 : ((c.veiled == (fn.params.toList ++ s.plain.varTypes P ++ fn.resultTypes.toList).any (P.veiledRec ·))) = true) (h31 : (c.veiledFits P fn.params.toList (fn.params.toList ++ s.plain.varTypes P ++ fn.resultTypes.toList)) = true) : joinedFacts P f fn s c = true:=by
  unfold joinedFacts
  simp only [h0,h1,h2,h3,h4,h5,h6,h7,h8,h9,h10,h11,h12,h13,h14,h15,h16,h17,h18,h19,h20,h21,h22,h23,h24,h25,h26,h27,h29,h30,h31,Bool.and_true,Bool.true_and]
  exact h28
theorem jp1 : laidOutB Tryz.pinned.checked.prog = true:=laid
theorem jp2 : mapsRowed Tryz.pinned.checked.prog = true:=by kernel_rfl
theorem jp6 : (Tryz.pinned.checked.prog.stops == []) = true:=by kernel_rfl
theorem jp8 : (Tryz.pinned.checked.prog.stopKnobs == []) = true:=by kernel_rfl
theorem jp24 : Tryz.pinned.checked.prog.stopsHeard = true:=by kernel_rfl
theorem jp25 : Tryz.pinned.checked.prog.mayEnter = true:=by kernel_rfl
end Go.Proofs.YtnjdbgiincliaaaGreat
