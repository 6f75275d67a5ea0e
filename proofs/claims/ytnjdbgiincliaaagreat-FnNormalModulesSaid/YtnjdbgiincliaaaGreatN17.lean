/- TxtsM, Jf. -/
import Derived.Test.YtnjdbgiincliaaaGreatN16
import Derived.Test.YtnjdbgiincliaaaGreatAbsW3
import Derived.Test.YtnjdbgiincliaaaGreatRows
/- The laws' comparison of texts. -/
set_option linter.unusedVariables false
set_option linter.unusedSimpArgs false
namespace Go.Proofs.YtnjdbgiincliaaaGreat
open Go.Abs Go.RowKit
set_option maxRecDepth 100000 in
theorem laws_mkTexts (ks : Nms) (hl : ks.length < 2 ^ 63) (A : List Box) :
    ACalls Tryz.prog 37 [.slice (aEs ks),.slice (aEs ks)] A (fun v A'=>v = .bool true ∧ A' = A):=by
  refine acalls_enter (cf:=cf 26 [0,1,4,5,10,14,25]) foll Tryz.func37 Tryz.ntmps37 (by simp [cf]) ?_
  simp only [Tryz.f37,EnterK_some,zW,zX,zD,builtinA,isLeaf,const1,ustrA,simprocAttr,ti3,ti9,ti48,cf,Tryz.results37]
  refine aloop_intro [0,1,5] (fun e A'=>∃ i,i ≤ ks.length ∧ e = [(0,.slice (aEs ks)),(1,.slice (aEs ks)),(5,.int .i64 i)] ∧ A' = A) (fun e _=>ks.length - (intOf (Abs.look 5 e)).toNat) ?_ ?_
  · simp only [zW,zX,zD,builtinA,isLeaf,const1,ustrA,simprocAttr,ti3,ti9,ti48,cf,Tryz.results37]
    exact ⟨0,by omega,rfl⟩
  · rintro e A' ⟨i,hi,rfl,rfl⟩
    simp only [zW,zX,zD,builtinA,isLeaf,const1,ustrA,simprocAttr,ti3,ti9,ti48,cf,Tryz.results37,aEs_length]
    refine condK_intro (fun h2=>?_) (fun h2=>?_)
    · have hi2 : i < ks.length:=by simpa using h2
      have he:=aEs_getD hi2
      have hi1 : IntKind.i64.wrap ((i : Int) + 1) = ((i + 1 : Nat) : Int):=by rw [wrap64 (by omega) (by omega)]; rfl
      simp only [zW,zX,zD,builtinA,isLeaf,const1,ustrA,simprocAttr,ti3,ti9,ti48,cf,Tryz.results37,he,aEs_length]
      refine .inl ⟨by kernel_rfl,by kernel_rfl,⟨by omega,by omega⟩,⟨by omega,by omega⟩,?_⟩
      simp only [zW,zX,zD,builtinA,isLeaf,const1,ustrA,simprocAttr,ti3,ti9,ti48,cf,Tryz.results37,hi1,LoopK_eq]
      refine ⟨⟨i + 1,by omega,rfl⟩,?_⟩
      simp only [intOf]
      omega
    · simp only [zW,zX,zD,builtinA,isLeaf,const1,ustrA,simprocAttr,ti3,ti9,ti48,cf,Tryz.results37]
end Go.Proofs.YtnjdbgiincliaaaGreat
/- The facts of a claim, one by one: a great program's do not fit into one check. -/
set_option linter.unusedVariables false
namespace Go.Proofs.YtnjdbgiincliaaaGreat
open Go.Abs Go.RowKit Go.ChangeShapes Go.WideShapes Go.ChangeAt Go.ChangeMaps
open Program Func OpenClaim in
theorem jf_of {P : Program} {f : FuncId} {fn : Func} {s : ChangeSpec} {c : OpenClaim} (h0 : (c.wf (OpenSpec.ofChange s)) = true) (h1 : (laidOutB P) = true) (h2 : (mapsRowed P) = true) (h3 : (fn.params.all (P.readableRec ·)) = true) (h4 : (namedTie P c.named s.vars) = true) (h5 : ((c.stops == [])) = true) (h6 : ((P.stops == [])) = true) (h7 : ((c.knobs == [])) = true) (h8 : ((P.stopKnobs == [])) = true) (h9 : ((c.inPlace == P.inPlace f)) = true) (h10 : ((c.unfollowed == P.unfollowed f)) = true) (h11 : ((c.recurses == P.recurses f)) = true) (h12 : ((c.named == P.varsNamed f)) = true) (h13 : ((c.maps == (fn.params.toList ++ s.plain.varTypes P).any (P.mapsRec ·))) = true) (h14 : ((c.ifaces == (fn.params.toList ++ s.plain.varTypes P).any (P.ifacesRec ·))) = true) (h15 : ((c.mapsOut == P.mapsAmong fn.resultTypes.toList)) = true) (h16 : ((c.loops == (fn.params.toList ++ s.plain.varTypes P).any (P.loopsFrom ·))) = true) (h17 : ((c.wideKeys == (fn.params.toList ++ s.plain.varTypes P ++ fn.resultTypes.toList).any (P.wideKeysFrom ·))) = true) (h18 : (s.vars.all (P.varReadable ·)) = true) (h19 : (fn.resultTypes.all (fun t=>P.readableRec t && decide (t < P.types.size))) = true) (h20 : ((c.ifacesOut == fn.resultTypes.toList.any (P.ifacesRec ·))) = true) (h21 : ((c.loopsOut == fn.resultTypes.toList.any (P.loopsFrom ·))) = true) (h22 : ((c.plainKeys == P.plainKeys)) = true) (h23 : (c.shortTexts.isNone) = true) (h24 : (P.stopsHeard) = true) (h25 : (P.mayEnter) = true) (h26 : ((c.lifted == P.liftsFinal)) = true) (h27 : ((P.make == some c.make)) = true) (h28 : ((c.kinds == (if c.domain.isEmpty then [] else fn.params.toList.map fun t=>match P.underlying t with | some (.int k)=>some k | _=>none))) = true) (h29 : ((c.pinned == c.pinnedBy)) = true) (h30 : ((c.veiled == (fn.params.toList ++ s.plain.varTypes P ++ fn.resultTypes.toList).any (P.veiledRec ·))) = true) (h31 : (c.veiledFits P fn.params.toList (fn.params.toList ++ s.plain.varTypes P ++ fn.resultTypes.toList)) = true) : joinedFacts P f fn s c = true:=by
  unfold joinedFacts
  simp only [h0,h1,h2,h3,h4,h5,h6,h7,h8,h9,h10,h11,h12,h13,h14,h15,h16,h17,h18,h19,h20,h21,h22,h23,h24,h25,h26,h27,h29,h30,h31,Bool.and_true,Bool.true_and]
  exact h28
theorem jp1 : laidOutB Tryz.pinned.checked.prog = true:=laid
theorem jp2 : mapsRowed Tryz.pinned.checked.prog = true:=by kernel_rfl
theorem jp6 : (Tryz.pinned.checked.prog.stops == []) = true:=by kernel_rfl
theorem jp8 : (Tryz.pinned.checked.prog.stopKnobs == []) = true:=by kernel_rfl
theorem jp24 : Tryz.pinned.checked.prog.stopsHeard = true:=by kernel_rfl
theorem jp25 : Tryz.pinned.checked.prog.mayEnter = true:=by kernel_rfl
end Go.Proofs.YtnjdbgiincliaaaGreat
