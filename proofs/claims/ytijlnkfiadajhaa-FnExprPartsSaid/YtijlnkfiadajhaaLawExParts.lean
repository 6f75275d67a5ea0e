/- Whatever two expressions are drawn: they are one and the same for the program if, and only if, their own parts are and their operands are, one by one. No condition beside the row's own. -/
import Derived.Test.YtijlnkfiadajhaaK09
set_option linter.unusedVariables false
set_option linter.unusedSimpArgs false
namespace Go.Proofs.Ytijlnkfiadajhaa
open Go.Abs Go.RowKit Go.ChangeShapes Go.WideShapes Go.ChangeAt Go.ChangeMaps
theorem okX (x : Ex) : szX x ≤ 1048576 → x.Ok:=by
  induction x using Ex.ind with
  | h k i m n t ks ih =>
    intro h
    rw [szX] at h
    exact .mk (by omega) (by omega) (okSz t (by omega)) (by omega) fun y hy=>ih y hy (by have:=szXs_mem hy; omega)
theorem take_more {l l' : List Ex} {i : Nat} (h : l.take i = l'.take i) (h1 : i < l.length) (h2 : i < l'.length) : decide (l.getD i ex0 = l'.getD i ex0) = decide (l.take (i + 1) = l'.take (i + 1)):=by
  rw [ex_take h1,ex_take h2,h]
  by_cases q : l.getD i ex0 = l'.getD i ex0
  · rw [q]; simp
  · rw [decide_eq_false q,decide_eq_false]
    intro e
    exact q (List.singleton_inj.1 (List.append_cancel_left e))
set_option maxRecDepth 100000 in
set_option maxHeartbeats 4000000 in
theorem exprParts_true (bs : List UInt8) : ACalls Try.prog 5 [.aslice (byteRows bs)] [] (fun v _=>v = .bool true):=by
  refine acalls_enter (cf:=cf 90 [0,2,3,4,5,6,7,10,23,73]) foll Try.func5 Try.ntmps5 (by simp [cf]) ?_
  simp only [Try.f5,EnterK_some,zW,zX,zD,builtinA,isLeaf,const1,ustrA,simprocAttr,ti3,ti4,ti5,ti9,ti50,ti51,ti53,ti58,ca16,ca17,ca18,ca19,cf,Try.results5]
  by_cases hb : 1048576 < bs.length
  · have e1 : decide ((1048576 : Int) < bs.length) = true:=decide_eq_true (by omega)
    simp only [zW,zX,zD,builtinA,isLeaf,const1,ustrA,simprocAttr,ti3,ti4,ti5,ti9,ti50,ti51,ti53,ti58,ca16,ca17,ca18,ca19,cf,Try.results5,byteRows_length,e1]
  · have e1 : decide ((1048576 : Int) < bs.length) = false:=decide_eq_false (by omega)
    simp only [zW,zX,zD,builtinA,isLeaf,const1,ustrA,simprocAttr,ti3,ti4,ti5,ti9,ti50,ti51,ti53,ti58,ca16,ca17,ca18,ca19,cf,Try.results5,byteRows_length,e1]
    refine callK_intro (by simp only [zW,zX,zD,builtinA,isLeaf,const1,ustrA,simprocAttr]; rfl) (spec_DrawExprSame bs _) ?_ rfl
    rintro v A' ⟨x,y,rfl,hx,hy,rfl⟩
    obtain ⟨k,ii,m,n,t,ks⟩:=x
    obtain ⟨k',ii',m',n',t',ks'⟩:=y
    have hiE:=fun A=>SX.impl_ExprSame (.mk k ii m n t ks) (.mk k' ii' m' n' t' ks') (by omega) (by omega) A
    have hsE:=fun A=>spec_ExprSame (.mk k ii m n t ks) (okX _ (by omega)) (.mk k' ii' m' n' t' ks') A
    generalize hd : decide (Ex.mk k ii m n t ks = Ex.mk k' ii' m' n' t' ks') = d at *
    rw [szX] at hx hy
    have hT:=fun A=>impl_TypeSame t t' (by omega) (by omega) A
    rw [encT4,encT4] at hT
    rw [encX_mk,encX_mk] at hiE hsE ⊢
    have bb : decide (d = d) = true:=by simp
    have bn : decide (d ≠ d) = false:=by simp
    simp only [zW,zX,zD,builtinA,isLeaf,const1,ustrA,simprocAttr,ti3,ti4,ti5,ti9,ti50,ti51,ti53,ti58,ca16,ca17,ca18,ca19,cf,Try.results5]
    refine callK_intro (by simp only [zW,zX,zD,builtinA,isLeaf,const1,ustrA,simprocAttr,]; rfl) (hiE _) ?_ rfl; rintro v A' ⟨rfl,rfl⟩
    simp only [zW,zX,zD,builtinA,isLeaf,const1,ustrA,simprocAttr,ti3,ti4,ti5,ti9,ti50,ti51,ti53,ti58,ca16,ca17,ca18,ca19,cf,Try.results5]
    refine callK_intro (by simp only [zW,zX,zD,builtinA,isLeaf,const1,ustrA,simprocAttr,]; rfl) (hsE _) ?_ rfl; rintro v A' ⟨rfl,rfl⟩
    simp only [zW,zX,zD,builtinA,isLeaf,const1,ustrA,simprocAttr,ti3,ti4,ti5,ti9,ti50,ti51,ti53,ti58,ca16,ca17,ca18,ca19,cf,Try.results5,bb,bn]
    cases h1 : decide (k = k') with
    | false =>
      simp only [zW,zX,zD,builtinA,isLeaf,const1,ustrA,simprocAttr,ti3,ti4,ti5,ti9,ti50,ti51,ti53,ti58,ca16,ca17,ca18,ca19,cf,Try.results5,h1]
      have hdf : d = false:=by rw [← hd]; exact decide_eq_false (fun h=>by injection h with q1 q2 q3 q4 q5 q6; exact of_decide_eq_false h1 q1)
      subst hdf
      refine aloop_intro [3,4,5,6,7] (fun e A'=>e = [(3,.ptr 0 0),(4,.ptr 1 0),(5,.bool false),(6,.bool false),(7,.int .i64 0)] ∧ A' = [Box.cells [AV.int IntKind.i64 k,AV.int IntKind.i64 ii,AV.str m,AV.str n,AV.int IntKind.i64 t.kind,AV.str t.mod,AV.str t.name,AV.slice (encs t.kids),AV.slice (encXs ks)],Box.cells [AV.int IntKind.i64 k',AV.int IntKind.i64 ii',AV.str m',AV.str n',AV.int IntKind.i64 t'.kind,AV.str t'.mod,AV.str t'.name,AV.slice (encs t'.kids),AV.slice (encXs ks')]]) (fun _ _=>0) ?_ ?_
      · simp only [zW,zX,zD,builtinA,isLeaf,const1,ustrA,simprocAttr,ti3,ti4,ti5,ti9,ti50,ti51,ti53,ti58,ca16,ca17,ca18,ca19,cf,Try.results5]
        try exact ⟨rfl,rfl⟩
      · rintro e A' ⟨rfl,rfl⟩
        by_cases hz : (0 : Int) < (ks.length : Int)
        · simp only [zW,zX,zD,builtinA,isLeaf,const1,ustrA,simprocAttr,ti3,ti4,ti5,ti9,ti50,ti51,ti53,ti58,ca16,ca17,ca18,ca19,cf,Try.results5,encXs_length,decide_eq_true hz]
        · simp only [zW,zX,zD,builtinA,isLeaf,const1,ustrA,simprocAttr,ti3,ti4,ti5,ti9,ti50,ti51,ti53,ti58,ca16,ca17,ca18,ca19,cf,Try.results5,encXs_length,decide_eq_false hz]
    | true =>
      cases h2 : decide (ii = ii') with
      | false =>
        simp only [zW,zX,zD,builtinA,isLeaf,const1,ustrA,simprocAttr,ti3,ti4,ti5,ti9,ti50,ti51,ti53,ti58,ca16,ca17,ca18,ca19,cf,Try.results5,h1,h2]
        have hdf : d = false:=by rw [← hd]; exact decide_eq_false (fun h=>by injection h with q1 q2 q3 q4 q5 q6; exact of_decide_eq_false h2 q2)
        subst hdf
        refine aloop_intro [3,4,5,6,7] (fun e A'=>e = [(3,.ptr 0 0),(4,.ptr 1 0),(5,.bool false),(6,.bool false),(7,.int .i64 0)] ∧ A' = [Box.cells [AV.int IntKind.i64 k,AV.int IntKind.i64 ii,AV.str m,AV.str n,AV.int IntKind.i64 t.kind,AV.str t.mod,AV.str t.name,AV.slice (encs t.kids),AV.slice (encXs ks)],Box.cells [AV.int IntKind.i64 k',AV.int IntKind.i64 ii',AV.str m',AV.str n',AV.int IntKind.i64 t'.kind,AV.str t'.mod,AV.str t'.name,AV.slice (encs t'.kids),AV.slice (encXs ks')]]) (fun _ _=>0) ?_ ?_
        · simp only [zW,zX,zD,builtinA,isLeaf,const1,ustrA,simprocAttr,ti3,ti4,ti5,ti9,ti50,ti51,ti53,ti58,ca16,ca17,ca18,ca19,cf,Try.results5]
          try exact ⟨rfl,rfl⟩
        · rintro e A' ⟨rfl,rfl⟩
          by_cases hz : (0 : Int) < (ks.length : Int)
          · simp only [zW,zX,zD,builtinA,isLeaf,const1,ustrA,simprocAttr,ti3,ti4,ti5,ti9,ti50,ti51,ti53,ti58,ca16,ca17,ca18,ca19,cf,Try.results5,encXs_length,decide_eq_true hz]
          · simp only [zW,zX,zD,builtinA,isLeaf,const1,ustrA,simprocAttr,ti3,ti4,ti5,ti9,ti50,ti51,ti53,ti58,ca16,ca17,ca18,ca19,cf,Try.results5,encXs_length,decide_eq_false hz]
      | true =>
        cases h3 : decide (m = m') with
        | false =>
          simp only [zW,zX,zD,builtinA,isLeaf,const1,ustrA,simprocAttr,ti3,ti4,ti5,ti9,ti50,ti51,ti53,ti58,ca16,ca17,ca18,ca19,cf,Try.results5,h1,h2,h3]
          have hdf : d = false:=by rw [← hd]; exact decide_eq_false (fun h=>by injection h with q1 q2 q3 q4 q5 q6; exact of_decide_eq_false h3 q3)
          subst hdf
          refine aloop_intro [3,4,5,6,7] (fun e A'=>e = [(3,.ptr 0 0),(4,.ptr 1 0),(5,.bool false),(6,.bool false),(7,.int .i64 0)] ∧ A' = [Box.cells [AV.int IntKind.i64 k,AV.int IntKind.i64 ii,AV.str m,AV.str n,AV.int IntKind.i64 t.kind,AV.str t.mod,AV.str t.name,AV.slice (encs t.kids),AV.slice (encXs ks)],Box.cells [AV.int IntKind.i64 k',AV.int IntKind.i64 ii',AV.str m',AV.str n',AV.int IntKind.i64 t'.kind,AV.str t'.mod,AV.str t'.name,AV.slice (encs t'.kids),AV.slice (encXs ks')]]) (fun _ _=>0) ?_ ?_
          · simp only [zW,zX,zD,builtinA,isLeaf,const1,ustrA,simprocAttr,ti3,ti4,ti5,ti9,ti50,ti51,ti53,ti58,ca16,ca17,ca18,ca19,cf,Try.results5]
            try exact ⟨rfl,rfl⟩
          · rintro e A' ⟨rfl,rfl⟩
            by_cases hz : (0 : Int) < (ks.length : Int)
            · simp only [zW,zX,zD,builtinA,isLeaf,const1,ustrA,simprocAttr,ti3,ti4,ti5,ti9,ti50,ti51,ti53,ti58,ca16,ca17,ca18,ca19,cf,Try.results5,encXs_length,decide_eq_true hz]
            · simp only [zW,zX,zD,builtinA,isLeaf,const1,ustrA,simprocAttr,ti3,ti4,ti5,ti9,ti50,ti51,ti53,ti58,ca16,ca17,ca18,ca19,cf,Try.results5,encXs_length,decide_eq_false hz]
        | true =>
          cases h4 : decide (n = n') with
          | false =>
            simp only [zW,zX,zD,builtinA,isLeaf,const1,ustrA,simprocAttr,ti3,ti4,ti5,ti9,ti50,ti51,ti53,ti58,ca16,ca17,ca18,ca19,cf,Try.results5,h1,h2,h3,h4]
            have hdf : d = false:=by rw [← hd]; exact decide_eq_false (fun h=>by injection h with q1 q2 q3 q4 q5 q6; exact of_decide_eq_false h4 q4)
            subst hdf
            refine aloop_intro [3,4,5,6,7] (fun e A'=>e = [(3,.ptr 0 0),(4,.ptr 1 0),(5,.bool false),(6,.bool false),(7,.int .i64 0)] ∧ A' = [Box.cells [AV.int IntKind.i64 k,AV.int IntKind.i64 ii,AV.str m,AV.str n,AV.int IntKind.i64 t.kind,AV.str t.mod,AV.str t.name,AV.slice (encs t.kids),AV.slice (encXs ks)],Box.cells [AV.int IntKind.i64 k',AV.int IntKind.i64 ii',AV.str m',AV.str n',AV.int IntKind.i64 t'.kind,AV.str t'.mod,AV.str t'.name,AV.slice (encs t'.kids),AV.slice (encXs ks')]]) (fun _ _=>0) ?_ ?_
            · simp only [zW,zX,zD,builtinA,isLeaf,const1,ustrA,simprocAttr,ti3,ti4,ti5,ti9,ti50,ti51,ti53,ti58,ca16,ca17,ca18,ca19,cf,Try.results5]
              try exact ⟨rfl,rfl⟩
            · rintro e A' ⟨rfl,rfl⟩
              by_cases hz : (0 : Int) < (ks.length : Int)
              · simp only [zW,zX,zD,builtinA,isLeaf,const1,ustrA,simprocAttr,ti3,ti4,ti5,ti9,ti50,ti51,ti53,ti58,ca16,ca17,ca18,ca19,cf,Try.results5,encXs_length,decide_eq_true hz]
              · simp only [zW,zX,zD,builtinA,isLeaf,const1,ustrA,simprocAttr,ti3,ti4,ti5,ti9,ti50,ti51,ti53,ti58,ca16,ca17,ca18,ca19,cf,Try.results5,encXs_length,decide_eq_false hz]
          | true =>
            simp only [zW,zX,zD,builtinA,isLeaf,const1,ustrA,simprocAttr,ti3,ti4,ti5,ti9,ti50,ti51,ti53,ti58,ca16,ca17,ca18,ca19,cf,Try.results5,h1,h2,h3,h4]
            refine callK_intro (by simp only [zW,zX,zD,builtinA,isLeaf,const1,ustrA,simprocAttr,]; rfl) (hT _) ?_ rfl; rintro v A' ⟨rfl,rfl⟩
            cases h5 : decide (t = t') with
            | false =>
              simp only [zW,zX,zD,builtinA,isLeaf,const1,ustrA,simprocAttr,ti3,ti4,ti5,ti9,ti50,ti51,ti53,ti58,ca16,ca17,ca18,ca19,cf,Try.results5,h5]
              have hdf : d = false:=by rw [← hd]; exact decide_eq_false (fun h=>by injection h with q1 q2 q3 q4 q5 q6; exact of_decide_eq_false h5 q5)
              subst hdf
              refine aloop_intro [3,4,5,6,7] (fun e A'=>e = [(3,.ptr 0 0),(4,.ptr 1 0),(5,.bool false),(6,.bool false),(7,.int .i64 0)] ∧ A' = [Box.cells [AV.int IntKind.i64 k,AV.int IntKind.i64 ii,AV.str m,AV.str n,AV.int IntKind.i64 t.kind,AV.str t.mod,AV.str t.name,AV.slice (encs t.kids),AV.slice (encXs ks)],Box.cells [AV.int IntKind.i64 k',AV.int IntKind.i64 ii',AV.str m',AV.str n',AV.int IntKind.i64 t'.kind,AV.str t'.mod,AV.str t'.name,AV.slice (encs t'.kids),AV.slice (encXs ks')]]) (fun _ _=>0) ?_ ?_
              · simp only [zW,zX,zD,builtinA,isLeaf,const1,ustrA,simprocAttr,ti3,ti4,ti5,ti9,ti50,ti51,ti53,ti58,ca16,ca17,ca18,ca19,cf,Try.results5]
                try exact ⟨rfl,rfl⟩
              · rintro e A' ⟨rfl,rfl⟩
                by_cases hz : (0 : Int) < (ks.length : Int)
                · simp only [zW,zX,zD,builtinA,isLeaf,const1,ustrA,simprocAttr,ti3,ti4,ti5,ti9,ti50,ti51,ti53,ti58,ca16,ca17,ca18,ca19,cf,Try.results5,encXs_length,decide_eq_true hz]
                · simp only [zW,zX,zD,builtinA,isLeaf,const1,ustrA,simprocAttr,ti3,ti4,ti5,ti9,ti50,ti51,ti53,ti58,ca16,ca17,ca18,ca19,cf,Try.results5,encXs_length,decide_eq_false hz]
            | true =>
              cases h6 : decide ((ks.length : Int) = (ks'.length : Int)) with
              | false =>
                simp only [zW,zX,zD,builtinA,isLeaf,const1,ustrA,simprocAttr,ti3,ti4,ti5,ti9,ti50,ti51,ti53,ti58,ca16,ca17,ca18,ca19,cf,Try.results5,h5,h6,encXs_length]
                have hdf : d = false:=by rw [← hd]; exact decide_eq_false (fun h=>by injection h with q1 q2 q3 q4 q5 q6; exact of_decide_eq_false h6 (by rw [q6]))
                subst hdf
                refine aloop_intro [3,4,5,6,7] (fun e A'=>e = [(3,.ptr 0 0),(4,.ptr 1 0),(5,.bool false),(6,.bool false),(7,.int .i64 0)] ∧ A' = [Box.cells [AV.int IntKind.i64 k,AV.int IntKind.i64 ii,AV.str m,AV.str n,AV.int IntKind.i64 t.kind,AV.str t.mod,AV.str t.name,AV.slice (encs t.kids),AV.slice (encXs ks)],Box.cells [AV.int IntKind.i64 k',AV.int IntKind.i64 ii',AV.str m',AV.str n',AV.int IntKind.i64 t'.kind,AV.str t'.mod,AV.str t'.name,AV.slice (encs t'.kids),AV.slice (encXs ks')]]) (fun _ _=>0) ?_ ?_
                · simp only [zW,zX,zD,builtinA,isLeaf,const1,ustrA,simprocAttr,ti3,ti4,ti5,ti9,ti50,ti51,ti53,ti58,ca16,ca17,ca18,ca19,cf,Try.results5]
                  try exact ⟨rfl,rfl⟩
                · rintro e A' ⟨rfl,rfl⟩
                  by_cases hz : (0 : Int) < (ks.length : Int)
                  · simp only [zW,zX,zD,builtinA,isLeaf,const1,ustrA,simprocAttr,ti3,ti4,ti5,ti9,ti50,ti51,ti53,ti58,ca16,ca17,ca18,ca19,cf,Try.results5,encXs_length,decide_eq_true hz]
                  · simp only [zW,zX,zD,builtinA,isLeaf,const1,ustrA,simprocAttr,ti3,ti4,ti5,ti9,ti50,ti51,ti53,ti58,ca16,ca17,ca18,ca19,cf,Try.results5,encXs_length,decide_eq_false hz]
              | true =>
                simp only [zW,zX,zD,builtinA,isLeaf,const1,ustrA,simprocAttr,ti3,ti4,ti5,ti9,ti50,ti51,ti53,ti58,ca16,ca17,ca18,ca19,cf,Try.results5,h5,h6,encXs_length]
                have hl : ks.length = ks'.length:=by have:=of_decide_eq_true h6; omega
                have hXY : d = decide (ks = ks'):=by
                  rw [← hd,of_decide_eq_true h1,of_decide_eq_true h2,of_decide_eq_true h3,of_decide_eq_true h4,of_decide_eq_true h5]
                  by_cases q : ks = ks'
                  · rw [q]; simp
                  · rw [decide_eq_false q,decide_eq_false (fun h=>q (by injection h))]
                refine aloop_intro [3,4,5,6,7] (fun e A'=>∃ i,i ≤ ks.length ∧ e = [(3,.ptr 0 0),(4,.ptr 1 0),(5,.bool d),(6,.bool (decide (ks.take i = ks'.take i))),(7,.int .i64 (i : Nat))] ∧ A' = [Box.cells [AV.int IntKind.i64 k,AV.int IntKind.i64 ii,AV.str m,AV.str n,AV.int IntKind.i64 t.kind,AV.str t.mod,AV.str t.name,AV.slice (encs t.kids),AV.slice (encXs ks)],Box.cells [AV.int IntKind.i64 k',AV.int IntKind.i64 ii',AV.str m',AV.str n',AV.int IntKind.i64 t'.kind,AV.str t'.mod,AV.str t'.name,AV.slice (encs t'.kids),AV.slice (encXs ks')]]) (fun e _=>ks.length - (intOf (Abs.look 7 e)).toNat) ?_ ?_
                · simp only [zW,zX,zD,builtinA,isLeaf,const1,ustrA,simprocAttr,ti3,ti4,ti5,ti9,ti50,ti51,ti53,ti58,ca16,ca17,ca18,ca19,cf,Try.results5]
                  exact ⟨0,by omega,by simp⟩
                · rintro e A' ⟨i,hi,rfl,rfl⟩
                  by_cases hz : (i : Int) < (ks.length : Int)
                  · have hi2 : i < ks.length:=by omega
                    have hi3 : i < ks'.length:=by omega
                    cases ht : decide (ks.take i = ks'.take i) with
                    | false =>
                      simp only [zW,zX,zD,builtinA,isLeaf,const1,ustrA,simprocAttr,ti3,ti4,ti5,ti9,ti50,ti51,ti53,ti58,ca16,ca17,ca18,ca19,cf,Try.results5,encXs_length,decide_eq_true hz]
                      have hdf : d = false:=by
                        rw [hXY]
                        exact decide_eq_false fun h=>of_decide_eq_false ht (by rw [h])
                      subst hdf
                      try simp only [zW,zX,zD,builtinA,isLeaf,const1,ustrA,simprocAttr,ti3,ti4,ti5,ti9,ti50,ti51,ti53,ti58,ca16,ca17,ca18,ca19,cf,Try.results5]
                    | true =>
                      have he:=encXs_getD hi2
                      have he':=encXs_getD hi3
                      have z1:=szXs_mem (ex_mem hi2)
                      have z2:=szXs_mem (ex_mem hi3)
                      have hk:=fun A=>SX.impl_ExprSame (ks.getD i ex0) (ks'.getD i ex0) (by omega) (by omega) A
                      have htm:=take_more (of_decide_eq_true ht) hi2 hi3
                      have hi1 : IntKind.i64.wrap ((i : Int) + 1) = ((i + 1 : Nat) : Int):=by rw [wrap64 (by omega) (by omega)]; rfl
                      simp only [zW,zX,zD,builtinA,isLeaf,const1,ustrA,simprocAttr,ti3,ti4,ti5,ti9,ti50,ti51,ti53,ti58,ca16,ca17,ca18,ca19,cf,Try.results5,encXs_length,decide_eq_true hz,he,he',encX_length,encX_take]
                      refine .inl ⟨by kernel_rfl,by kernel_rfl,⟨by omega,by omega⟩,⟨by omega,by omega⟩,?_⟩
                      refine callD_intro (by simp only [zW,zX,zD,builtinA,isLeaf,const1,ustrA,simprocAttr,frzL_encX,Option.map_some] <;> rfl) (hk _) ?_ rfl
                      rw [htm]
                      simp only [zW,zX,zD,builtinA,isLeaf,const1,ustrA,simprocAttr,ti3,ti4,ti5,ti9,ti50,ti51,ti53,ti58,ca16,ca17,ca18,ca19,cf,Try.results5,hi1,LoopK_eq]
                      refine ⟨⟨i + 1,by omega,rfl⟩,?_⟩
                      simp only [intOf]
                      omega
                  · simp only [zW,zX,zD,builtinA,isLeaf,const1,ustrA,simprocAttr,ti3,ti4,ti5,ti9,ti50,ti51,ti53,ti58,ca16,ca17,ca18,ca19,cf,Try.results5,encXs_length,decide_eq_false hz]
                    have hie : i = ks.length:=by omega
                    rw [hie,List.take_length,hl,List.take_length,hXY]
                    simp
theorem exprParts_rec : ∀ t ∈ Try.f5.params.toList,Try.prog.readableRec t = true ∧ t < Try.prog.types.size:=by
  rw [Try.params5]
  intro t ht
  simp at ht
  subst ht
  exact ⟨by kernel_rfl,of_decide_eq_true (by kernel_rfl)⟩
set_option maxRecDepth 100000 in
theorem exprParts_lifted (os : Os) (started : os.Started) (H : Type) (enc' : TypeId × Value → H) :
    ReturnsInHanded {} Try.checked os 5 .any (Rows.fnExprPartsSpec.pre6 enc' Try.prog Try.f5 Rows.fnExprPartsRow.domain false) (Rows.fnExprPartsSpec.post enc' Try.prog Try.f5 false true false false):=by
  refine returnsInHanded_of_change (C:=Try.checked) ownk started (by kernel_rfl) Try.func5
    (ChangeSpec.witness6 (enc:=enc') (C:=Try.checked) false ⟨#[],#[.slice none 0 0],[]⟩ 8 (by kernel_rfl) (by kernel_rfl) (by kernel_rfl) (by kernel_rfl)) ?_
  intro W base args ds gs before hval0 hW hcnd _
  have hval : ∀ (j : Nat) t v,Try.f5.params[j]? = some t → args[j]? = some v → Value.okWide Try.prog W .any base t v:=hval0
  have hW':=hW
  obtain ⟨p,q,hA0,hV,rfl,hfz,hnd⟩:=hW
  have hA : DataW.TrodAll enc' Try.prog W 0 (fun _=>true) true Try.f5.params.toList args.toList ds p:=hA0
  rw [Try.params5] at hA hval
  have hlt:=hA.lt
  obtain ⟨v0,d0,rfl,rfl,h0⟩:=trodAll_one hA
  obtain ⟨rfl,rfl⟩:=trodVars_none hV
  obtain ⟨x0,r0⟩:=rv_bytes Try.underlying58 Try.underlying5 (by kernel_rfl) (hval 0 58 v0 rfl rfl) h0 (fun x hx=>hlt x (by simp [hx]))
  refine (law_calls (exprParts_true x0) (.cons r0 .nil)).mono fun e W' ⟨he,hb⟩=>?_
  subst he
  exact ⟨_,rfl,law_post laid exprParts_rec rfl Try.underlying4 (by kernel_rfl) ⟨rfl,rfl⟩ rfl hW' hb⟩
theorem exprParts_f9 : (Rows.fnExprPartsRow.inPlace == Try.pinned.checked.prog.inPlace 5) = true:=by kernel_rfl
theorem exprParts_f10 : (Rows.fnExprPartsRow.unfollowed == Try.pinned.checked.prog.unfollowed 5) = true:=by kernel_rfl
theorem exprParts_f11 : (Rows.fnExprPartsRow.recurses == Try.pinned.checked.prog.recurses 5) = true:=by kernel_rfl
theorem exprParts_f12 : (Rows.fnExprPartsRow.named == Try.pinned.checked.prog.varsNamed 5) = true:=by kernel_rfl
theorem exprParts_f16 : (Rows.fnExprPartsRow.loops == (Try.f5.params.toList ++ Rows.fnExprPartsSpec.plain.varTypes Try.pinned.checked.prog).any (Try.pinned.checked.prog.loopsFrom ·)) = true:=by kernel_rfl
theorem exprParts_f17 : (Rows.fnExprPartsRow.wideKeys == (Try.f5.params.toList ++ Rows.fnExprPartsSpec.plain.varTypes Try.pinned.checked.prog ++ Try.f5.resultTypes.toList).any (Try.pinned.checked.prog.wideKeysFrom ·)) = true:=by kernel_rfl
theorem exprParts_f22 : (Rows.fnExprPartsRow.plainKeys == Try.pinned.checked.prog.plainKeys) = true:=by kernel_rfl
theorem exprParts_f26 : (Rows.fnExprPartsRow.lifted == Try.pinned.checked.prog.liftsFinal) = true:=by kernel_rfl
theorem exprParts_f27 : (Try.pinned.checked.prog.make == some Rows.fnExprPartsRow.make) = true:=by kernel_rfl
theorem exprParts_facts : joinedFacts Try.pinned.checked.prog 5 Try.f5 Rows.fnExprPartsSpec Rows.fnExprPartsRow = true :=
  jf_of (by kernel_rfl) jp1 jp2 (by kernel_rfl) (by kernel_rfl) (by kernel_rfl) jp6 (by kernel_rfl) jp8 exprParts_f9 exprParts_f10 exprParts_f11 exprParts_f12 (by kernel_rfl) (by kernel_rfl) (by kernel_rfl) exprParts_f16 exprParts_f17 (by kernel_rfl) (by kernel_rfl) (by kernel_rfl) (by kernel_rfl) exprParts_f22 (by kernel_rfl) jp24 jp25 exprParts_f26 exprParts_f27 (by kernel_rfl) (by kernel_rfl) (by kernel_rfl) (by kernel_rfl)
theorem exprParts_holds : Rows.FnExprPartsSaid :=
  OpenClaim.holds_of_wide 5 Try.f5 rfl rfl rfl rfl rfl rfl rfl ⟨rfl,rfl,rfl,rfl,rfl⟩ rfl rfl rfl rfl rfl (by kernel_rfl) Try.func5 exprParts_facts
    (of_decide_eq_true (by kernel_rfl)) (by unfold Func.isWrapper; first | (rw [if_pos (by decide +kernel)]; kernel_rfl) | (rw [if_neg (by decide +kernel)]; exact ⟨rfl,rfl⟩))
    (fun os started H enc' _=>exprParts_lifted os started H enc')
end Go.Proofs.Ytijlnkfiadajhaa
