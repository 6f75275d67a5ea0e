/- For every list of items, however deep its types, the program's FormatSig answers as the model's FormatSig does; nothing that the call was given is changed. No condition beside the row's own. -/
import Derived.Test.YtamicokgpigmkaaGreatSigPure
import Derived.Test.YtamicokgpigmkaaGreatSigSpec3
import Derived.Test.YtamicokgpigmkaaGreatFmtSig
import Derived.Test.YtamicokgpigmkaaGreatSigLaw
import Derived.Test.YtamicokgpigmkaaGreatAbsW3
set_option linter.unusedVariables false
set_option linter.unusedSimpArgs false
namespace Go.Proofs.YtamicokgpigmkaaGreat
open Go.Abs Go.RowKit Go.ChangeShapes Go.WideShapes Go.ChangeAt Go.ChangeMaps

theorem item_reads (x : SigI) : (∃ y, localB x.name = true ∧ ItemOf x y) ∨ itemOk x = false := by
  cases hl : localB x.name with
  | false => exact .inr (by simp [itemOk, hl])
  | true =>
    by_cases k1 : x.kind = 1
    · by_cases ht : x.typ = ty0
      · exact .inl ⟨.ab x.name, rfl, rfl, k1, ht⟩
      · exact .inr (by simp [itemOk, k1, ht])
    · by_cases k2 : x.kind = 2
      · rcases valid_cases x.typ with ⟨v, h1, h2⟩ | h
        · exact .inl ⟨.al x.name v, rfl, rfl, k2, h1, h2⟩
        · exact .inr (by simp [itemOk, k2, h])
      · by_cases k3 : x.kind = 3
        · rcases valid_cases x.typ with ⟨v, h1, h2⟩ | h
          · exact .inl ⟨.va x.name v, rfl, rfl, k3, h1, h2⟩
          · exact .inr (by simp [itemOk, k3, h])
        · exact .inr (by simp [itemOk, k1, k2, k3])
theorem reads_all : ∀ s : List SigI, (∃ ys, ReadsTo s ys) ∨ ∃ x ∈ s, itemOk x = false
  | [] => .inl ⟨[], rfl, fun i hi => by simp at hi⟩
  | x :: s => by
    rcases item_reads x with ⟨y, h1, h2⟩ | h
    · rcases reads_all s with ⟨ys, h3, h4⟩ | ⟨z, h5, h6⟩
      · refine .inl ⟨y :: ys, by simp [h3], fun i hi => ?_⟩
        cases i with
        | zero => exact ⟨h1, h2⟩
        | succ i => simpa using h4 i (by simpa using hi)
      · exact .inr ⟨z, .tail _ h5, h6⟩
    · exact .inr ⟨x, .head _, h⟩
theorem item_uniq {x : SigI} {y y' : VI} (h : ItemOf x y) (h' : ItemOf x y') : y = y' := by
  cases y <;> cases y'
  case ab.ab => rw [← h.1, ← h'.1]
  case al.al => rw [← h.1, ← h'.1, toTy_inj (h.2.2.1.symm.trans h'.2.2.1)]
  case va.va => rw [← h.1, ← h'.1, toTy_inj (h.2.2.1.symm.trans h'.2.2.1)]
  all_goals (have a := h.2.1; have b := h'.2.1; rw [a] at b; simp at b)
theorem reads_uniq {s : List SigI} {ys ys' : List VI} (h : ReadsTo s ys) (h' : ReadsTo s ys') : ys = ys' := by
  refine List.ext_getElem (by rw [h.1, h'.1]) fun i h1 h2 => ?_
  have := item_uniq (h.2 i (by rw [← h.1]; exact h1)).2 (h'.2 i (by rw [← h.1]; exact h1)).2
  simpa [List.getD, h1, h2] using this

set_option maxRecDepth 100000 in
theorem spec_FormatSig (s : List SigI) (hs : s.length ≤ 1048576) (ho : ∀ x ∈ s, x.Ok ∧ sz x.typ ≤ 1048576) (t : List UInt8)
    (ht : (∃ ys, s.length ≤ 8 ∧ ReadsTo s ys ∧ ordB ys = true ∧ t = txtS ys) ∨ (sigB s = false ∧ t = [])) (A : List Box) : ACalls Tryz.prog 11 [.slice (sEs s)] A (fun r A' => r = .str t ∧ A' = A) := by
  refine acalls_enter (cf := cf 8 [0, 2, 5]) foll Tryz.func11 Tryz.ntmps11 (by simp [cf]) ?_
  simp only [Tryz.f11, EnterK_some, zW, zX, zD, builtinA, isLeaf, const1, Nat.reduceAdd, Nat.reduceMul, Nat.reduceSub, Nat.reduceLT, Nat.reduceLeDiff, Nat.reduceEqDiff, Nat.reduceBEq, Nat.reduceBNe, reduceIte, reduceCtorEq, Int.reduceToNat, Int.reduceLT, Int.reduceLE, Int.reduceEq, Int.reduceNe, Int.reduceNeg, ustrA, ca36, ca37, cf, Tryz.results11]
  refine callK_intro (by simp only [zW, zX, zD, builtinA, isLeaf, const1, Nat.reduceAdd, Nat.reduceMul, Nat.reduceSub, Nat.reduceLT, Nat.reduceLeDiff, Nat.reduceEqDiff, Nat.reduceBEq, Nat.reduceBNe, reduceIte, reduceCtorEq, Int.reduceToNat, Int.reduceLT, Int.reduceLE, Int.reduceEq, Int.reduceNe, Int.reduceNeg, ustrA, Option.map_some]; rfl) (spec_SigValid s hs ho _) ?_ rfl; rintro v A' ⟨rfl, rfl⟩
  rcases ht with ⟨ys, h8, hr, hb, rfl⟩ | ⟨hb, rfl⟩
  · have hv : sigB s = true := by rw [sigB_reads h8 hr, hb]
    simp only [zW, zX, zD, builtinA, isLeaf, const1, Nat.reduceAdd, Nat.reduceMul, Nat.reduceSub, Nat.reduceLT, Nat.reduceLeDiff, Nat.reduceEqDiff, Nat.reduceBEq, Nat.reduceBNe, reduceIte, reduceCtorEq, Int.reduceToNat, Int.reduceLT, Int.reduceLE, Int.reduceEq, Int.reduceNe, Int.reduceNeg, ustrA, ca36, ca37, cf, Tryz.results11, hv, Bool.not_true]
    refine callK_intro (by simp only [zW, zX, zD, builtinA, isLeaf, const1, Nat.reduceAdd, Nat.reduceMul, Nat.reduceSub, Nat.reduceLT, Nat.reduceLeDiff, Nat.reduceEqDiff, Nat.reduceBEq, Nat.reduceBNe, reduceIte, reduceCtorEq, Int.reduceToNat, Int.reduceLT, Int.reduceLE, Int.reduceEq, Int.reduceNe, Int.reduceNeg, ustrA, Option.map_some]; rfl) (spec_l2Sig s ys h8 hr _) ?_ rfl; rintro v A' ⟨rfl, rfl⟩
    simp only [zW, zX, zD, builtinA, isLeaf, const1, Nat.reduceAdd, Nat.reduceMul, Nat.reduceSub, Nat.reduceLT, Nat.reduceLeDiff, Nat.reduceEqDiff, Nat.reduceBEq, Nat.reduceBNe, reduceIte, reduceCtorEq, Int.reduceToNat, Int.reduceLT, Int.reduceLE, Int.reduceEq, Int.reduceNe, Int.reduceNeg, ustrA, ca36, ca37, cf, Tryz.results11]
  · simp only [zW, zX, zD, builtinA, isLeaf, const1, Nat.reduceAdd, Nat.reduceMul, Nat.reduceSub, Nat.reduceLT, Nat.reduceLeDiff, Nat.reduceEqDiff, Nat.reduceBEq, Nat.reduceBNe, reduceIte, reduceCtorEq, Int.reduceToNat, Int.reduceLT, Int.reduceLE, Int.reduceEq, Int.reduceNe, Int.reduceNeg, ustrA, ca36, ca37, cf, Tryz.results11, hb, Bool.not_false]

set_option maxRecDepth 100000 in
theorem impl_FormatSig (s : List SigI) (hs : s.length ≤ 1048576) (ho : ∀ x ∈ s, x.Ok ∧ sz x.typ ≤ 1048576) (t : List UInt8)
    (ht : (∃ ys, s.length ≤ 8 ∧ ReadsTo s ys ∧ ordB ys = true ∧ t = txtS ys) ∨ (sigB s = false ∧ t = [])) (A : List Box) : ACalls Tryz.prog 13 [.slice (sEs s)] A (fun r A' => r = .str t ∧ A' = A) := by
  refine acalls_enter (cf := cf 15 [0, 2, 3, 4, 11]) foll Tryz.func13 Tryz.ntmps13 (by simp [cf]) ?_
  simp only [Tryz.f13, EnterK_some, zW, zX, zD, builtinA, isLeaf, const1, Nat.reduceAdd, Nat.reduceMul, Nat.reduceSub, Nat.reduceLT, Nat.reduceLeDiff, Nat.reduceEqDiff, Nat.reduceBEq, Nat.reduceBNe, reduceIte, reduceCtorEq, Int.reduceToNat, Int.reduceLT, Int.reduceLE, Int.reduceEq, Int.reduceNe, Int.reduceNeg, ustrA, ti64, ti103, ca39, ca40, cf, Tryz.results13]
  refine callK_intro (by simp only [zW, zX, zD, builtinA, isLeaf, const1, Nat.reduceAdd, Nat.reduceMul, Nat.reduceSub, Nat.reduceLT, Nat.reduceLeDiff, Nat.reduceEqDiff, Nat.reduceBEq, Nat.reduceBNe, reduceIte, reduceCtorEq, Int.reduceToNat, Int.reduceLT, Int.reduceLE, Int.reduceEq, Int.reduceNe, Int.reduceNeg, ustrA, Option.map_some]; rfl) (impl_readSig s hs ho _) ?_ rfl
  rintro r A' ⟨h, rfl⟩
  rcases ht with ⟨ys, h8, hr, hb, rfl⟩ | ⟨hb, rfl⟩
  · rcases h with ⟨ys', h8', hr', rfl⟩ | ⟨hbad, rfl⟩
    · have e := reads_uniq hr' hr
      subst e
      have hw : ∀ k, k < ys'.length → okI (ys'.getD k vi0) ∧ (nameI (ys'.getD k vi0)).length = 1 := fun k hk => by
        obtain ⟨a1, a2⟩ := hr.2 k (by rw [← hr.1]; exact hk)
        obtain ⟨a3, a4⟩ := itemOf_ok a2
        exact ⟨a4, by rw [a3]; exact local_one a1⟩
      have hl8 : ys'.length ≤ 8 := by rw [hr.1]; exact h8
      simp only [zW, zX, zD, builtinA, isLeaf, const1, Nat.reduceAdd, Nat.reduceMul, Nat.reduceSub, Nat.reduceLT, Nat.reduceLeDiff, Nat.reduceEqDiff, Nat.reduceBEq, Nat.reduceBNe, reduceIte, reduceCtorEq, Int.reduceToNat, Int.reduceLT, Int.reduceLE, Int.reduceEq, Int.reduceNe, Int.reduceNeg, ustrA, ti64, ti103, ca39, ca40, cf, Tryz.results13, hb, Bool.not_true]
      refine callK_intro rfl (impl_textSig ys' hl8 hw _) ?_ rfl
      rintro r A2 ⟨rfl, rfl⟩
      simp only [zW, zX, zD, builtinA, isLeaf, const1, Nat.reduceAdd, Nat.reduceMul, Nat.reduceSub, Nat.reduceLT, Nat.reduceLeDiff, Nat.reduceEqDiff, Nat.reduceBEq, Nat.reduceBNe, reduceIte, reduceCtorEq, Int.reduceToNat, Int.reduceLT, Int.reduceLE, Int.reduceEq, Int.reduceNe, Int.reduceNeg, ustrA, ti64, ti103, ca39, ca40, cf, Tryz.results13]
    · have := sigB_bad hbad
      rw [sigB_reads h8 hr, hb] at this; cases this
  · rcases h with ⟨ys', h8', hr', rfl⟩ | ⟨hbad, rfl⟩
    · have e := sigB_reads h8' hr'
      rw [hb] at e
      simp only [zW, zX, zD, builtinA, isLeaf, const1, Nat.reduceAdd, Nat.reduceMul, Nat.reduceSub, Nat.reduceLT, Nat.reduceLeDiff, Nat.reduceEqDiff, Nat.reduceBEq, Nat.reduceBNe, reduceIte, reduceCtorEq, Int.reduceToNat, Int.reduceLT, Int.reduceLE, Int.reduceEq, Int.reduceNe, Int.reduceNeg, ustrA, ti64, ti103, ca39, ca40, cf, Tryz.results13, ← e, Bool.not_false]
    · simp only [zW, zX, zD, builtinA, isLeaf, const1, Nat.reduceAdd, Nat.reduceMul, Nat.reduceSub, Nat.reduceLT, Nat.reduceLeDiff, Nat.reduceEqDiff, Nat.reduceBEq, Nat.reduceBNe, reduceIte, reduceCtorEq, Int.reduceToNat, Int.reduceLT, Int.reduceLE, Int.reduceEq, Int.reduceNe, Int.reduceNeg, ustrA, ti64, ti103, ca39, ca40, cf, Tryz.results13]

set_option maxRecDepth 100000 in
theorem exactFormatSig_true (a : List SigI) (ha : SigsOk a) : ACalls Tryz.prog 3 [.aslice (sEAs a)] [] (fun v _ => v = .bool true) := by
  refine acalls_enter (cf := cf 27 [0, 2, 3, 4, 5, 6, 11, 21, 26]) foll Tryz.func3 Tryz.ntmps3 (by simp [cf]) ?_
  simp only [Tryz.f3, EnterK_some, zW, zX, zD, builtinA, isLeaf, const1, Nat.reduceAdd, Nat.reduceMul, Nat.reduceSub, Nat.reduceLT, Nat.reduceLeDiff, Nat.reduceEqDiff, Nat.reduceBEq, Nat.reduceBNe, reduceIte, reduceCtorEq, Int.reduceToNat, Int.reduceLT, Int.reduceLE, Int.reduceEq, Int.reduceNe, Int.reduceNeg, ustrA, ti3, ti9, ca10, ca11, ca12, ca13, ca14, cf, Tryz.results3]
  refine callK_intro (by simp only [zW, zX, zD, builtinA, isLeaf, const1, Nat.reduceAdd, Nat.reduceMul, Nat.reduceSub, Nat.reduceLT, Nat.reduceLeDiff, Nat.reduceEqDiff, Nat.reduceBEq, Nat.reduceBNe, reduceIte, reduceCtorEq, Int.reduceToNat, Int.reduceLT, Int.reduceLE, Int.reduceEq, Int.reduceNe, Int.reduceNeg, ustrA, Option.map_some]; rfl) (laws_szSigItemS a ha.1 ha.2 _ _ (by omega) (by omega)) ?_ rfl; rintro v A' ⟨rfl, rfl⟩
  by_cases h1 : ((a.length + szIs a : Nat) : Int) ≤ 1048576
  · have v1 : left 1048576 (a.length + szIs a) = 1048576 - (a.length + szIs a : Nat) := by rw [left, if_pos h1]
    have n1 : decide ((1048576 : Int) - (a.length + szIs a : Nat) < 0) = false := decide_eq_false (by omega)
    have ho : ∀ x ∈ a, x.Ok ∧ sz x.typ ≤ 1048576 := fun x hx => ⟨ha.2 x hx, by have := szIs_mem hx; unfold szI at this; omega⟩
    have hkey : ∃ t, (∃ ys, a.length ≤ 8 ∧ ReadsTo a ys ∧ ordB ys = true ∧ t = txtS ys) ∨ (sigB a = false ∧ t = []) := by
      by_cases h8 : a.length ≤ 8
      · rcases reads_all a with ⟨ys, hr⟩ | hb
        · cases hb : ordB ys with
          | true => exact ⟨_, .inl ⟨ys, h8, hr, hb, rfl⟩⟩
          | false => exact ⟨_, .inr ⟨by rw [sigB_reads h8 hr, hb], rfl⟩⟩
        · exact ⟨_, .inr ⟨sigB_bad (.inr hb), rfl⟩⟩
      · exact ⟨_, .inr ⟨sigB_bad (.inl (by omega)), rfl⟩⟩
    obtain ⟨t, ht⟩ := hkey
    rw [v1]
    simp only [zW, zX, zD, builtinA, isLeaf, const1, Nat.reduceAdd, Nat.reduceMul, Nat.reduceSub, Nat.reduceLT, Nat.reduceLeDiff, Nat.reduceEqDiff, Nat.reduceBEq, Nat.reduceBNe, reduceIte, reduceCtorEq, Int.reduceToNat, Int.reduceLT, Int.reduceLE, Int.reduceEq, Int.reduceNe, Int.reduceNeg, ustrA, ti3, ti9, ca10, ca11, ca12, ca13, ca14, cf, Tryz.results3, n1]
    refine callK_intro (by simp only [zW, zX, zD, builtinA, isLeaf, const1, Nat.reduceAdd, Nat.reduceMul, Nat.reduceSub, Nat.reduceLT, Nat.reduceLeDiff, Nat.reduceEqDiff, Nat.reduceBEq, Nat.reduceBNe, reduceIte, reduceCtorEq, Int.reduceToNat, Int.reduceLT, Int.reduceLE, Int.reduceEq, Int.reduceNe, Int.reduceNeg, ustrA]; rfl) (laws_toSigItemS a (by omega) (by omega) _) ?_ rfl; rintro v A' ⟨rfl, rfl⟩
    simp only [zW, zX, zD, builtinA, isLeaf, const1, Nat.reduceAdd, Nat.reduceMul, Nat.reduceSub, Nat.reduceLT, Nat.reduceLeDiff, Nat.reduceEqDiff, Nat.reduceBEq, Nat.reduceBNe, reduceIte, reduceCtorEq, Int.reduceToNat, Int.reduceLT, Int.reduceLE, Int.reduceEq, Int.reduceNe, Int.reduceNeg, ustrA, ti3, ti9, ca10, ca11, ca12, ca13, ca14, cf, Tryz.results3]
    refine callK_intro (by simp only [zW, zX, zD, builtinA, isLeaf, const1, Nat.reduceAdd, Nat.reduceMul, Nat.reduceSub, Nat.reduceLT, Nat.reduceLeDiff, Nat.reduceEqDiff, Nat.reduceBEq, Nat.reduceBNe, reduceIte, reduceCtorEq, Int.reduceToNat, Int.reduceLT, Int.reduceLE, Int.reduceEq, Int.reduceNe, Int.reduceNeg, ustrA]; rfl) (spec_FormatSig a (by omega) ho t ht _) ?_ rfl; rintro v A' ⟨rfl, rfl⟩
    simp only [zW, zX, zD, builtinA, isLeaf, const1, Nat.reduceAdd, Nat.reduceMul, Nat.reduceSub, Nat.reduceLT, Nat.reduceLeDiff, Nat.reduceEqDiff, Nat.reduceBEq, Nat.reduceBNe, reduceIte, reduceCtorEq, Int.reduceToNat, Int.reduceLT, Int.reduceLE, Int.reduceEq, Int.reduceNe, Int.reduceNeg, ustrA, ti3, ti9, ca10, ca11, ca12, ca13, ca14, cf, Tryz.results3]
    refine callK_intro (by simp only [zW, zX, zD, builtinA, isLeaf, const1, Nat.reduceAdd, Nat.reduceMul, Nat.reduceSub, Nat.reduceLT, Nat.reduceLeDiff, Nat.reduceEqDiff, Nat.reduceBEq, Nat.reduceBNe, reduceIte, reduceCtorEq, Int.reduceToNat, Int.reduceLT, Int.reduceLE, Int.reduceEq, Int.reduceNe, Int.reduceNeg, ustrA]; rfl) (laws_toSigItemS a (by omega) (by omega) _) ?_ rfl; rintro v A' ⟨rfl, rfl⟩
    simp only [zW, zX, zD, builtinA, isLeaf, const1, Nat.reduceAdd, Nat.reduceMul, Nat.reduceSub, Nat.reduceLT, Nat.reduceLeDiff, Nat.reduceEqDiff, Nat.reduceBEq, Nat.reduceBNe, reduceIte, reduceCtorEq, Int.reduceToNat, Int.reduceLT, Int.reduceLE, Int.reduceEq, Int.reduceNe, Int.reduceNeg, ustrA, ti3, ti9, ca10, ca11, ca12, ca13, ca14, cf, Tryz.results3]
    refine callK_intro (by simp only [zW, zX, zD, builtinA, isLeaf, const1, Nat.reduceAdd, Nat.reduceMul, Nat.reduceSub, Nat.reduceLT, Nat.reduceLeDiff, Nat.reduceEqDiff, Nat.reduceBEq, Nat.reduceBNe, reduceIte, reduceCtorEq, Int.reduceToNat, Int.reduceLT, Int.reduceLE, Int.reduceEq, Int.reduceNe, Int.reduceNeg, ustrA]; rfl) (impl_FormatSig a (by omega) ho t ht _) ?_ rfl; rintro v A' ⟨rfl, rfl⟩
    simp only [zW, zX, zD, builtinA, isLeaf, const1, Nat.reduceAdd, Nat.reduceMul, Nat.reduceSub, Nat.reduceLT, Nat.reduceLeDiff, Nat.reduceEqDiff, Nat.reduceBEq, Nat.reduceBNe, reduceIte, reduceCtorEq, Int.reduceToNat, Int.reduceLT, Int.reduceLE, Int.reduceEq, Int.reduceNe, Int.reduceNeg, ustrA, ti3, ti9, ca10, ca11, ca12, ca13, ca14, cf, Tryz.results3]
    refine callK_intro (by simp only [zW, zX, zD, builtinA, isLeaf, const1, Nat.reduceAdd, Nat.reduceMul, Nat.reduceSub, Nat.reduceLT, Nat.reduceLeDiff, Nat.reduceEqDiff, Nat.reduceBEq, Nat.reduceBNe, reduceIte, reduceCtorEq, Int.reduceToNat, Int.reduceLT, Int.reduceLE, Int.reduceEq, Int.reduceNe, Int.reduceNeg, ustrA]; rfl) (laws_toSigItemS a (by omega) (by omega) _) ?_ rfl; rintro v A' ⟨rfl, rfl⟩
    simp only [zW, zX, zD, builtinA, isLeaf, const1, Nat.reduceAdd, Nat.reduceMul, Nat.reduceSub, Nat.reduceLT, Nat.reduceLeDiff, Nat.reduceEqDiff, Nat.reduceBEq, Nat.reduceBNe, reduceIte, reduceCtorEq, Int.reduceToNat, Int.reduceLT, Int.reduceLE, Int.reduceEq, Int.reduceNe, Int.reduceNeg, ustrA, ti3, ti9, ca10, ca11, ca12, ca13, ca14, cf, Tryz.results3]
    refine callK_intro (by simp only [zW, zX, zD, builtinA, isLeaf, const1, Nat.reduceAdd, Nat.reduceMul, Nat.reduceSub, Nat.reduceLT, Nat.reduceLeDiff, Nat.reduceEqDiff, Nat.reduceBEq, Nat.reduceBNe, reduceIte, reduceCtorEq, Int.reduceToNat, Int.reduceLT, Int.reduceLE, Int.reduceEq, Int.reduceNe, Int.reduceNeg, ustrA]; rfl) (laws_eqSigItemS a ha.1 ha.2 _) ?_ rfl; rintro v A' ⟨rfl, rfl⟩
    simp only [zW, zX, zD, builtinA, isLeaf, const1, Nat.reduceAdd, Nat.reduceMul, Nat.reduceSub, Nat.reduceLT, Nat.reduceLeDiff, Nat.reduceEqDiff, Nat.reduceBEq, Nat.reduceBNe, reduceIte, reduceCtorEq, Int.reduceToNat, Int.reduceLT, Int.reduceLE, Int.reduceEq, Int.reduceNe, Int.reduceNeg, ustrA, ti3, ti9, ca10, ca11, ca12, ca13, ca14, cf, Tryz.results3]
  · have v1 : left 1048576 (a.length + szIs a) = -1 := by rw [left, if_neg h1]
    rw [v1]
    simp only [zW, zX, zD, builtinA, isLeaf, const1, Nat.reduceAdd, Nat.reduceMul, Nat.reduceSub, Nat.reduceLT, Nat.reduceLeDiff, Nat.reduceEqDiff, Nat.reduceBEq, Nat.reduceBNe, reduceIte, reduceCtorEq, Int.reduceToNat, Int.reduceLT, Int.reduceLE, Int.reduceEq, Int.reduceNe, Int.reduceNeg, ustrA, ti3, ti9, ca10, ca11, ca12, ca13, ca14, cf, Tryz.results3]

theorem exactFormatSig_rec : ∀ t ∈ Tryz.f3.params.toList, Tryz.prog.readableRec t = true ∧ t < Tryz.prog.types.size := by
  rw [Tryz.params3]
  intro t ht
  simp at ht
  subst ht
  exact ⟨by kernel_rfl, of_decide_eq_true (by kernel_rfl)⟩
set_option maxRecDepth 100000 in
theorem exactFormatSig_lifted (os : Os) (started : os.Started) (H : Type) (enc' : TypeId × Value → H) :
    ReturnsInHanded {} Tryz.checked os 3 .any (Rows.fnExactFormatSigSpec.pre6 enc' Tryz.prog Tryz.f3 Rows.fnExactFormatSigRow.domain false) (Rows.fnExactFormatSigSpec.post enc' Tryz.prog Tryz.f3 false true false false) := by
  refine returnsInHanded_of_change (C := Tryz.checked) ownk started (by kernel_rfl) Tryz.func3
    (ChangeSpec.witness6 (enc := enc') (C := Tryz.checked) false ⟨#[], #[.slice none 0 0], []⟩ 8 (by kernel_rfl) (by kernel_rfl) (by kernel_rfl) (by kernel_rfl)) ?_
  intro W base args ds gs before hval0 hW hcnd _
  have hval : ∀ (j : Nat) t v, Tryz.f3.params[j]? = some t → args[j]? = some v → Value.okWide Tryz.prog W .any base t v := hval0
  have hW' := hW
  obtain ⟨p, q, hA0, hV, rfl, hfz, hnd⟩ := hW
  have hA : DataW.TrodAll enc' Tryz.prog W 0 (fun _ => true) true Tryz.f3.params.toList args.toList ds p := hA0
  rw [Tryz.params3] at hA hval
  have hlt := hA.lt
  obtain ⟨v0, d0, rfl, rfl, h0⟩ := trodAll_one hA
  obtain ⟨rfl, rfl⟩ := trodVars_none hV
  obtain ⟨x0, hx0, r0⟩ := rv_sigs (hval 0 22 v0 rfl rfl) h0
  refine (law_calls (exactFormatSig_true x0 hx0) (.cons r0 .nil)).mono fun e W' ⟨he, hb⟩ => ?_
  subst he
  exact ⟨_, rfl, law_post laid exactFormatSig_rec rfl Tryz.underlying4 (by kernel_rfl) ⟨rfl, rfl⟩ rfl hW' hb⟩
theorem exactFormatSig_holds : Rows.FnExactFormatSigSaid :=
  OpenClaim.holds_of_wide 3 Tryz.f3 rfl rfl rfl rfl rfl rfl rfl ⟨rfl, rfl, rfl, rfl, rfl⟩ rfl rfl rfl rfl rfl (by kernel_rfl) Tryz.func3 (by kernel_rfl)
    (of_decide_eq_true (by kernel_rfl)) (by unfold Func.isWrapper; first | (rw [if_pos (by decide +kernel)]; kernel_rfl) | (rw [if_neg (by decide +kernel)]; exact ⟨rfl, rfl⟩))
    (fun os started H enc' _ => exactFormatSig_lifted os started H enc')
end Go.Proofs.YtamicokgpigmkaaGreat
