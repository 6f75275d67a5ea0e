/- For every list of items and every name the program's FindVal answers as the model's FindVal does, in every field; what it hands back is memory of its own, which neither writing into the arguments nor a second call changes, and the arguments are not changed. No condition beside the row's own. -/
import Derived.Test.YtjoaedbeohgciaaGreatSpFind
import Derived.Test.YtjoaedbeohgciaaGreatSigFT
import Derived.Test.YtjoaedbeohgciaaGreatSubOutS
import Derived.Test.YtjoaedbeohgciaaGreatOwnSm
import Derived.Test.YtjoaedbeohgciaaGreatSigLaw
import Derived.Test.YtjoaedbeohgciaaGreatAbsW3
set_option linter.unusedVariables false
set_option linter.unusedSimpArgs false
namespace Go.Proofs.YtjoaedbeohgciaaGreat
open Go.Abs Go.RowKit Go.ChangeShapes Go.WideShapes Go.ChangeAt Go.ChangeMaps

set_option maxRecDepth 100000 in
set_option maxHeartbeats 4000000 in
theorem exactFindVal_true (s : List SigI) (hso : SigsOk s) (nm : List UInt8) : ACalls Tryz.prog 5 [.aslice (sEAs s), .str nm] [] (fun v _ => v = .bool true) := by
  obtain ⟨hbl, hbo⟩ := hso
  have hszb := fun A l h1 h2 => laws_szSigItemS s hbl hbo l A h1 h2
  by_cases hl : nm.length ≤ 1048576
  · have hd : decide ((1048576 : Int) < (nm.length : Int)) = false := decide_eq_false (by omega)
    by_cases hs2 : ((s.length + szIs s : Nat) : Int) ≤ 1048576
    · have hv2 : left 1048576 (s.length + szIs s) = 1048576 - (s.length + szIs s : Nat) := by rw [left, if_pos (by omega)]
      have hn2 : decide ((1048576 : Int) - (s.length + szIs s : Nat) < 0) = false := decide_eq_false (by omega)
      have hbz : ∀ b ∈ s, szI b ≤ 1048576 := fun b hb => by have := szIs_mem hb; omega
      have hbo2 : ∀ x ∈ s, x.Ok ∧ sz x.typ ≤ 1048576 := fun x hx => ⟨hbo x hx, by have := hbz x hx; rw [szI] at this; omega⟩
      obtain ⟨o, ho⟩ := meanIs_ex s (true, nm)
      obtain ⟨hρok, hρc⟩ := meanIs_ok ho
      obtain ⟨k', m', n', ks', hρ⟩ : ∃ k m n ks, oTyS o = .mk k m n ks := by cases oTyS o; exact ⟨_, _, _, _, rfl⟩
      have hspec : ∀ A, ACalls Tryz.prog 19 [.slice (sEs s), .str nm] A (fun r A' => r = .tuple [.agg (enc (.mk k' m' n' ks')), .bool o.isSome] ∧ A' = A) := fun A => (spec_FindVal s (by omega) hbo2 nm A).mono fun r A' h => by
        obtain ⟨o', h1, h2, h3⟩ := h
        rw [meanIs_one h1 ho] at h2
        exact ⟨by rw [h2, hρ], h3⟩
      have hnew : ∀ A, ACalls Tryz.prog 20 [.slice (sEs s), .str nm] A (SubNew A o) := new_call fun A => (impl_FindVal s (by omega) hbo2 nm A).mono fun r A' h => by
        obtain ⟨o', h1, h2⟩ := h
        rw [meanIs_one h1 ho] at h2
        exact h2
      have himpl : ∀ A, ACalls Tryz.prog 20 [.slice (sEs s), .str nm] A (OutS A k' m' n' ks' o.isSome) := fun A => (hnew A).mono fun r A' h => outS_of hρ h
      have himb : ∀ (A : List Box) (args : List AV), Views A args [.slice (sEs s), .str nm] → ACalls Tryz.prog 20 args A (OutS A k' m' n' ks' o.isSome) := fun A args h => (new_view hnew h).mono fun r A' h => outS_of hρ h
      rw [hρ] at hρok hρc
      rw [count] at hρc
      generalize o.isSome = ok at hspec himpl himb
      clear ho hρ hnew
      have heqr := laws_eqType _ hρok
      have htob := laws_toSigItemS s (by omega) (by omega)
      have heqb := laws_eqSigItemS s hbl hbo
      have htbn := toSigIS_own s (by omega) hbz
      have htb := totG_sz s
      have hmr := markL_next ks' 1
      have hge1 : decide ((1 : Int) + (totG s : Int) < 0) = false := decide_eq_false (by omega)
      have hge2 : decide ((markL ks' 1).2 < 0) = false := decide_eq_false (by omega)
      have hne : ∀ x : Int, decide (¬ x = x) = false := fun x => by simp
      have hnb : decide (¬ ok = ok) = false := by simp
      refine acalls_enter (cf := cf 104 [0, 1, 4, 5, 6, 7, 8, 9, 10, 11, 12, 13, 14, 15, 18, 23, 47, 52, 68, 76, 79, 95, 100, 103]) foll Tryz.func5 Tryz.ntmps5 (by simp [cf]) ?_
      simp only [Tryz.f5, EnterK_some, zW, zX, zD, builtinA, isLeaf, const1, Nat.reduceAdd, Nat.reduceMul, Nat.reduceSub, Nat.reduceLT, Nat.reduceLeDiff, Nat.reduceEqDiff, Nat.reduceBEq, Nat.reduceBNe, reduceIte, reduceCtorEq, Int.reduceToNat, Int.reduceLT, Int.reduceLE, Int.reduceEq, Int.reduceNe, Int.reduceNeg, ustrA, ti3, ti4, ti9, ti33, ca7, ca9, ca11, ca12, ca16, ca17, ca18, ca19, ca20, cf, Tryz.results5]
      simp only [zW, zX, zD, builtinA, isLeaf, const1, Nat.reduceAdd, Nat.reduceMul, Nat.reduceSub, Nat.reduceLT, Nat.reduceLeDiff, Nat.reduceEqDiff, Nat.reduceBEq, Nat.reduceBNe, reduceIte, reduceCtorEq, Int.reduceToNat, Int.reduceLT, Int.reduceLE, Int.reduceEq, Int.reduceNe, Int.reduceNeg, ustrA, ti3, ti4, ti9, ti33, ca7, ca9, ca11, ca12, ca16, ca17, ca18, ca19, ca20, cf, Tryz.results5, hd]
      refine callK_intro (by simp only [zW, zX, zD, builtinA, isLeaf, const1, Nat.reduceAdd, Nat.reduceMul, Nat.reduceSub, Nat.reduceLT, Nat.reduceLeDiff, Nat.reduceEqDiff, Nat.reduceBEq, Nat.reduceBNe, reduceIte, reduceCtorEq, Int.reduceToNat, Int.reduceLT, Int.reduceLE, Int.reduceEq, Int.reduceNe, Int.reduceNeg, ustrA, Option.map_some]; rfl) (hszb _ _ (by omega) (by omega)) ?_ rfl; rintro v A' ⟨rfl, rfl⟩
      rw [hv2]
      simp only [zW, zX, zD, builtinA, isLeaf, const1, Nat.reduceAdd, Nat.reduceMul, Nat.reduceSub, Nat.reduceLT, Nat.reduceLeDiff, Nat.reduceEqDiff, Nat.reduceBEq, Nat.reduceBNe, reduceIte, reduceCtorEq, Int.reduceToNat, Int.reduceLT, Int.reduceLE, Int.reduceEq, Int.reduceNe, Int.reduceNeg, ustrA, ti3, ti4, ti9, ti33, ca7, ca9, ca11, ca12, ca16, ca17, ca18, ca19, ca20, cf, Tryz.results5, hn2]
      refine callK_intro (by simp only [zW, zX, zD, builtinA, isLeaf, const1, Nat.reduceAdd, Nat.reduceMul, Nat.reduceSub, Nat.reduceLT, Nat.reduceLeDiff, Nat.reduceEqDiff, Nat.reduceBEq, Nat.reduceBNe, reduceIte, reduceCtorEq, Int.reduceToNat, Int.reduceLT, Int.reduceLE, Int.reduceEq, Int.reduceNe, Int.reduceNeg, ustrA, Option.map_some]; rfl) (htob _) ?_ rfl; rintro v A' ⟨rfl, rfl⟩
      simp only [zW, zX, zD, builtinA, isLeaf, const1, Nat.reduceAdd, Nat.reduceMul, Nat.reduceSub, Nat.reduceLT, Nat.reduceLeDiff, Nat.reduceEqDiff, Nat.reduceBEq, Nat.reduceBNe, reduceIte, reduceCtorEq, Int.reduceToNat, Int.reduceLT, Int.reduceLE, Int.reduceEq, Int.reduceNe, Int.reduceNeg, ustrA, ti3, ti4, ti9, ti33, ca7, ca9, ca11, ca12, ca16, ca17, ca18, ca19, ca20, cf, Tryz.results5, enc_take, enc_length]
      refine callK_intro (by simp only [zW, zX, zD, builtinA, isLeaf, const1, Nat.reduceAdd, Nat.reduceMul, Nat.reduceSub, Nat.reduceLT, Nat.reduceLeDiff, Nat.reduceEqDiff, Nat.reduceBEq, Nat.reduceBNe, reduceIte, reduceCtorEq, Int.reduceToNat, Int.reduceLT, Int.reduceLE, Int.reduceEq, Int.reduceNe, Int.reduceNeg, ustrA, frzL_enc, Option.map_some]; rfl) (hspec _) ?_ rfl; rintro v A' ⟨rfl, rfl⟩
      simp only [zW, zX, zD, builtinA, isLeaf, const1, Nat.reduceAdd, Nat.reduceMul, Nat.reduceSub, Nat.reduceLT, Nat.reduceLeDiff, Nat.reduceEqDiff, Nat.reduceBEq, Nat.reduceBNe, reduceIte, reduceCtorEq, Int.reduceToNat, Int.reduceLT, Int.reduceLE, Int.reduceEq, Int.reduceNe, Int.reduceNeg, ustrA, ti3, ti4, ti9, ti33, ca7, ca9, ca11, ca12, ca16, ca17, ca18, ca19, ca20, cf, Tryz.results5, enc_take, enc_length, frzL_enc]
      refine callK_intro (by simp only [zW, zX, zD, builtinA, isLeaf, const1, Nat.reduceAdd, Nat.reduceMul, Nat.reduceSub, Nat.reduceLT, Nat.reduceLeDiff, Nat.reduceEqDiff, Nat.reduceBEq, Nat.reduceBNe, reduceIte, reduceCtorEq, Int.reduceToNat, Int.reduceLT, Int.reduceLE, Int.reduceEq, Int.reduceNe, Int.reduceNeg, ustrA, Option.map_some] <;> rfl) (htbn _) ?_ rfl
      rintro r A4 ⟨jb, rfl, hle4, hf4, rowsb, Sb, hgb, hRb, hNb, hgeb⟩
      simp only [List.length_append, List.length_cons, List.length_nil] at hle4 hf4 hgeb
      have b1 : A4.getD 0 .dead = .cells (enc (.mk k' m' n' ks')) := by rw [hf4 0 (by omega)]; rfl
      have hlb : ∀ i ∈ jb :: Sb, i < A4.length := fun i hi => by
        rcases List.mem_cons.1 hi with rfl | hi
        · exact live_lt hgb (by simp)
        · exact hRb.low i hi
      clear hf4
      simp only [zW, zX, zD, builtinA, isLeaf, const1, Nat.reduceAdd, Nat.reduceMul, Nat.reduceSub, Nat.reduceLT, Nat.reduceLeDiff, Nat.reduceEqDiff, Nat.reduceBEq, Nat.reduceBNe, reduceIte, reduceCtorEq, Int.reduceToNat, Int.reduceLT, Int.reduceLE, Int.reduceEq, Int.reduceNe, Int.reduceNeg, ustrA, ti3, ti4, ti9, ti33, ca7, ca9, ca11, ca12, ca16, ca17, ca18, ca19, ca20, cf, Tryz.results5]
      refine callO_intro (himb _ _ (.cons (OwnG.viewG hgb hRb) (.cons (.leaf _ rfl) .nil))) ?_
      rintro r A5 ⟨B5, v, S5, hA5, rfl, hK5, hN5, hR5⟩
      have l5 : A4.length ≤ A5.length := by rw [hA5]; simp
      have f5 : ∀ i, i < A4.length → (A5 ++ [Box.cells [.int .i64 k', .str m', .str n', v]]).getD i .dead = A4.getD i .dead := fun i hi => by rw [Abs.getD_append_left (by omega), hA5, Abs.getD_append_left hi]
      have c3 : (A5 ++ [Box.cells [.int .i64 k', .str m', .str n', v]]).getD A5.length .dead = .cells [.int .i64 k', .str m', .str n', v] := by rw [Abs.getD_append_right (Nat.le_refl _)]; simp
      have hK6 : OwnK (A5 ++ [Box.cells [.int .i64 k', .str m', .str n', v]]) ks' v S5 := hK5.frame fun i hi => Abs.getD_append_left (hR5 i hi).2
      have l6 : (A5 ++ [Box.cells [.int .i64 k', .str m', .str n', v]]).length = A5.length + 1 := by simp
      clear hA5 hK5
      simp only [zW, zX, zD, builtinA, isLeaf, const1, Nat.reduceAdd, Nat.reduceMul, Nat.reduceSub, Nat.reduceLT, Nat.reduceLeDiff, Nat.reduceEqDiff, Nat.reduceBEq, Nat.reduceBNe, reduceIte, reduceCtorEq, Int.reduceToNat, Int.reduceLT, Int.reduceLE, Int.reduceEq, Int.reduceNe, Int.reduceNeg, ustrA, ti3, ti4, ti9, ti33, ca7, ca9, ca11, ca12, ca16, ca17, ca18, ca19, ca20, cf, Tryz.results5]
      generalize (A5 ++ [Box.cells [.int .i64 k', .str m', .str n', v]]) = A6 at *
      have c1 := (f5 0 (by omega)).trans b1
      have hb6 : A6.getD jb .dead = .gr none 6 rowsb := (f5 jb (hlb jb (by simp))).trans hgb
      have hB6 : OwnG A6 s rowsb Sb := hRb.frame fun i hi => f5 i (hlb i (by simp [hi]))
      clear f5 hgb hRb b1
      simp only [zW, zX, zD, builtinA, isLeaf, const1, Nat.reduceAdd, Nat.reduceMul, Nat.reduceSub, Nat.reduceLT, Nat.reduceLeDiff, Nat.reduceEqDiff, Nat.reduceBEq, Nat.reduceBNe, reduceIte, reduceCtorEq, Int.reduceToNat, Int.reduceLT, Int.reduceLE, Int.reduceEq, Int.reduceNe, Int.reduceNeg, ustrA, ti3, ti4, ti9, ti33, ca7, ca9, ca11, ca12, ca16, ca17, ca18, ca19, ca20, cf, Tryz.results5, c1, c3, enc_take, enc_length]
      refine callO_intro (borrow0 (.cons (hK6.viewT k' m' n') (.cons (viewNS _ _) .nil)) rfl heqr) ?_
      rintro r A' ⟨rfl, rfl⟩
      simp only [zW, zX, zD, builtinA, isLeaf, const1, Nat.reduceAdd, Nat.reduceMul, Nat.reduceSub, Nat.reduceLT, Nat.reduceLeDiff, Nat.reduceEqDiff, Nat.reduceBEq, Nat.reduceBNe, reduceIte, reduceCtorEq, Int.reduceToNat, Int.reduceLT, Int.reduceLE, Int.reduceEq, Int.reduceNe, Int.reduceNeg, ustrA, ti3, ti4, ti9, ti33, ca7, ca9, ca11, ca12, ca16, ca17, ca18, ca19, ca20, cf, Tryz.results5, hnb]
      refine callK_intro (by simp only [zW, zX, zD, builtinA, isLeaf, const1, Nat.reduceAdd, Nat.reduceMul, Nat.reduceSub, Nat.reduceLT, Nat.reduceLeDiff, Nat.reduceEqDiff, Nat.reduceBEq, Nat.reduceBNe, reduceIte, reduceCtorEq, Int.reduceToNat, Int.reduceLT, Int.reduceLE, Int.reduceEq, Int.reduceNe, Int.reduceNeg, ustrA, Option.map_some]; rfl) (htob _) ?_ rfl; rintro v A' ⟨rfl, rfl⟩
      simp only [zW, zX, zD, builtinA, isLeaf, const1, Nat.reduceAdd, Nat.reduceMul, Nat.reduceSub, Nat.reduceLT, Nat.reduceLeDiff, Nat.reduceEqDiff, Nat.reduceBEq, Nat.reduceBNe, reduceIte, reduceCtorEq, Int.reduceToNat, Int.reduceLT, Int.reduceLE, Int.reduceEq, Int.reduceNe, Int.reduceNeg, ustrA, ti3, ti4, ti9, ti33, ca7, ca9, ca11, ca12, ca16, ca17, ca18, ca19, ca20, cf, Tryz.results5]
      refine callO_intro (borrow0 (.cons (OwnG.viewG hb6 hB6) (.cons (.leaf _ rfl) .nil)) rfl heqb) ?_
      rintro r A' ⟨rfl, rfl⟩
      simp only [zW, zX, zD, builtinA, isLeaf, const1, Nat.reduceAdd, Nat.reduceMul, Nat.reduceSub, Nat.reduceLT, Nat.reduceLeDiff, Nat.reduceEqDiff, Nat.reduceBEq, Nat.reduceBNe, reduceIte, reduceCtorEq, Int.reduceToNat, Int.reduceLT, Int.reduceLE, Int.reduceEq, Int.reduceNe, Int.reduceNeg, ustrA, ti3, ti4, ti9, ti33, ca7, ca9, ca11, ca12, ca16, ca17, ca18, ca19, ca20, cf, Tryz.results5]
      have hSb : ∀ i ∈ jb :: Sb, 0 < i ∧ i < A4.length := fun i hi => ⟨by have := hgeb i hi; omega, hlb i hi⟩
      refine callO_intro (laws_markSigItemS s hbl hbo _ jb rowsb Sb 1 hb6 hB6 hNb (by omega) (by omega)) ?_
      rintro r A8 ⟨rfl, l8, f8⟩
      have e1 := (f8 0 (fun h => by have := hSb 0 h; omega)).trans c1
      have e3 := (f8 A5.length (fun h => by have := hSb _ h; omega)).trans c3
      have hK8 : OwnK A8 ks' v S5 := hK6.frame fun i hi => f8 i (fun h => by have := hSb _ h; have := hR5 i hi; omega)
      clear f8 hb6 hB6 hK6 c1 c3
      simp only [zW, zX, zD, builtinA, isLeaf, const1, Nat.reduceAdd, Nat.reduceMul, Nat.reduceSub, Nat.reduceLT, Nat.reduceLeDiff, Nat.reduceEqDiff, Nat.reduceBEq, Nat.reduceBNe, reduceIte, reduceCtorEq, Int.reduceToNat, Int.reduceLT, Int.reduceLE, Int.reduceEq, Int.reduceNe, Int.reduceNeg, ustrA, ti3, ti4, ti9, ti33, ca7, ca9, ca11, ca12, ca16, ca17, ca18, ca19, ca20, cf, Tryz.results5, hge1, e1, e3, enc_take, enc_length]
      refine callO_intro (borrow0 (.cons (hK8.viewT k' m' n') (.cons (viewNS _ _) .nil)) rfl heqr) ?_
      rintro r A' ⟨rfl, rfl⟩
      simp only [zW, zX, zD, builtinA, isLeaf, const1, Nat.reduceAdd, Nat.reduceMul, Nat.reduceSub, Nat.reduceLT, Nat.reduceLeDiff, Nat.reduceEqDiff, Nat.reduceBEq, Nat.reduceBNe, reduceIte, reduceCtorEq, Int.reduceToNat, Int.reduceLT, Int.reduceLE, Int.reduceEq, Int.reduceNe, Int.reduceNeg, ustrA, ti3, ti4, ti9, ti33, ca7, ca9, ca11, ca12, ca16, ca17, ca18, ca19, ca20, cf, Tryz.results5, hnb, e3]
      refine callO_intro (laws_markType k' m' n' ks' hρok _ v S5 1 hK8 hN5 (by omega) (by omega)) ?_
      rintro r A9 ⟨rfl, l9, hK9, f9⟩
      have g1 := (f9 0 (by omega) (fun h => by have := hR5 0 h; omega)).trans e1
      have g3 := (f9 A5.length (by omega) (fun h => by have := hR5 _ h; omega)).trans e3
      clear f9 hK8 e1 e3
      simp only [zW, zX, zD, builtinA, isLeaf, const1, Nat.reduceAdd, Nat.reduceMul, Nat.reduceSub, Nat.reduceLT, Nat.reduceLeDiff, Nat.reduceEqDiff, Nat.reduceBEq, Nat.reduceBNe, reduceIte, reduceCtorEq, Int.reduceToNat, Int.reduceLT, Int.reduceLE, Int.reduceEq, Int.reduceNe, Int.reduceNeg, ustrA, ti3, ti4, ti9, ti33, ca7, ca9, ca11, ca12, ca16, ca17, ca18, ca19, ca20, cf, Tryz.results5, g3]
      refine callO_intro (borrow0 (.cons (hK9.viewT k' m' n') (.cons (.leaf _ rfl) .nil)) rfl (fun A => laws_heldType k' m' n' ks' hρok 1 (by omega) (by omega) A)) ?_
      rintro r A' ⟨rfl, rfl⟩
      simp only [zW, zX, zD, builtinA, isLeaf, const1, Nat.reduceAdd, Nat.reduceMul, Nat.reduceSub, Nat.reduceLT, Nat.reduceLeDiff, Nat.reduceEqDiff, Nat.reduceBEq, Nat.reduceBNe, reduceIte, reduceCtorEq, Int.reduceToNat, Int.reduceLT, Int.reduceLE, Int.reduceEq, Int.reduceNe, Int.reduceNeg, ustrA, ti3, ti4, ti9, ti33, ca7, ca9, ca11, ca12, ca16, ca17, ca18, ca19, ca20, cf, Tryz.results5, hge2, hne]
      refine callK_intro (by simp only [zW, zX, zD, builtinA, isLeaf, const1, Nat.reduceAdd, Nat.reduceMul, Nat.reduceSub, Nat.reduceLT, Nat.reduceLeDiff, Nat.reduceEqDiff, Nat.reduceBEq, Nat.reduceBNe, reduceIte, reduceCtorEq, Int.reduceToNat, Int.reduceLT, Int.reduceLE, Int.reduceEq, Int.reduceNe, Int.reduceNeg, ustrA, Option.map_some]; rfl) (htob _) ?_ rfl; rintro v A' ⟨rfl, rfl⟩
      simp only [zW, zX, zD, builtinA, isLeaf, const1, Nat.reduceAdd, Nat.reduceMul, Nat.reduceSub, Nat.reduceLT, Nat.reduceLeDiff, Nat.reduceEqDiff, Nat.reduceBEq, Nat.reduceBNe, reduceIte, reduceCtorEq, Int.reduceToNat, Int.reduceLT, Int.reduceLE, Int.reduceEq, Int.reduceNe, Int.reduceNeg, ustrA, ti3, ti4, ti9, ti33, ca7, ca9, ca11, ca12, ca16, ca17, ca18, ca19, ca20, cf, Tryz.results5]
      refine callK_intro (by simp only [zW, zX, zD, builtinA, isLeaf, const1, Nat.reduceAdd, Nat.reduceMul, Nat.reduceSub, Nat.reduceLT, Nat.reduceLeDiff, Nat.reduceEqDiff, Nat.reduceBEq, Nat.reduceBNe, reduceIte, reduceCtorEq, Int.reduceToNat, Int.reduceLT, Int.reduceLE, Int.reduceEq, Int.reduceNe, Int.reduceNeg, ustrA, frzL_enc, Option.map_some] <;> rfl) (himpl _) ?_ rfl
      rintro r A10 ⟨B10, v2, S10, hA10, rfl, hK10, hN10, hR10⟩
      have l10 : A'.length ≤ A10.length := by rw [hA10]; simp
      have f10 : ∀ i, i < A'.length → (A10 ++ [Box.cells [.int .i64 k', .str m', .str n', v2]]).getD i .dead = A'.getD i .dead := fun i hi => by rw [Abs.getD_append_left (by omega), hA10, Abs.getD_append_left hi]
      have c10 : (A10 ++ [Box.cells [.int .i64 k', .str m', .str n', v2]]).getD A10.length .dead = .cells [.int .i64 k', .str m', .str n', v2] := by rw [Abs.getD_append_right (Nat.le_refl _)]; simp
      have hK11 : OwnK (A10 ++ [Box.cells [.int .i64 k', .str m', .str n', v2]]) ks' v2 S10 := hK10.frame fun i hi => Abs.getD_append_left (hR10 i hi).2
      have hM11 : OwnK (A10 ++ [Box.cells [.int .i64 k', .str m', .str n', v2]]) (markL ks' 1).1 v S5 := hK9.frame fun i hi => f10 i (hK9.low i hi)
      have h11 := (f10 0 (by omega)).trans g1
      have h13 := (f10 A5.length (by omega)).trans g3
      clear hA10 hK10 f10
      simp only [zW, zX, zD, builtinA, isLeaf, const1, Nat.reduceAdd, Nat.reduceMul, Nat.reduceSub, Nat.reduceLT, Nat.reduceLeDiff, Nat.reduceEqDiff, Nat.reduceBEq, Nat.reduceBNe, reduceIte, reduceCtorEq, Int.reduceToNat, Int.reduceLT, Int.reduceLE, Int.reduceEq, Int.reduceNe, Int.reduceNeg, ustrA, ti3, ti4, ti9, ti33, ca7, ca9, ca11, ca12, ca16, ca17, ca18, ca19, ca20, cf, Tryz.results5]
      generalize (A10 ++ [Box.cells [.int .i64 k', .str m', .str n', v2]]) = A11 at *
      simp only [zW, zX, zD, builtinA, isLeaf, const1, Nat.reduceAdd, Nat.reduceMul, Nat.reduceSub, Nat.reduceLT, Nat.reduceLeDiff, Nat.reduceEqDiff, Nat.reduceBEq, Nat.reduceBNe, reduceIte, reduceCtorEq, Int.reduceToNat, Int.reduceLT, Int.reduceLE, Int.reduceEq, Int.reduceNe, Int.reduceNeg, ustrA, ti3, ti4, ti9, ti33, ca7, ca9, ca11, ca12, ca16, ca17, ca18, ca19, ca20, cf, Tryz.results5, h11, c10, enc_take, enc_length]
      refine callO_intro (borrow0 (.cons (hK11.viewT k' m' n') (.cons (viewNS _ _) .nil)) rfl heqr) ?_
      rintro r A' ⟨rfl, rfl⟩
      simp only [zW, zX, zD, builtinA, isLeaf, const1, Nat.reduceAdd, Nat.reduceMul, Nat.reduceSub, Nat.reduceLT, Nat.reduceLeDiff, Nat.reduceEqDiff, Nat.reduceBEq, Nat.reduceBNe, reduceIte, reduceCtorEq, Int.reduceToNat, Int.reduceLT, Int.reduceLE, Int.reduceEq, Int.reduceNe, Int.reduceNeg, ustrA, ti3, ti4, ti9, ti33, ca7, ca9, ca11, ca12, ca16, ca17, ca18, ca19, ca20, cf, Tryz.results5, hnb, h13]
      refine callO_intro (borrow0 (.cons (hM11.viewT k' m' n') (.cons (.leaf _ rfl) .nil)) rfl (fun A => laws_heldType k' m' n' ks' hρok 1 (by omega) (by omega) A)) ?_
      rintro r A' ⟨rfl, rfl⟩
      simp only [zW, zX, zD, builtinA, isLeaf, const1, Nat.reduceAdd, Nat.reduceMul, Nat.reduceSub, Nat.reduceLT, Nat.reduceLeDiff, Nat.reduceEqDiff, Nat.reduceBEq, Nat.reduceBNe, reduceIte, reduceCtorEq, Int.reduceToNat, Int.reduceLT, Int.reduceLE, Int.reduceEq, Int.reduceNe, Int.reduceNeg, ustrA, ti3, ti4, ti9, ti33, ca7, ca9, ca11, ca12, ca16, ca17, ca18, ca19, ca20, cf, Tryz.results5, hge2, hne]
    · have hv2 : left 1048576 (s.length + szIs s) = -1 := by rw [left, if_neg (by omega)]
      refine acalls_enter (cf := cf 104 [0, 1, 4, 5, 6, 7, 8, 9, 10, 11, 12, 13, 14, 15, 18, 23, 47, 52, 68, 76, 79, 95, 100, 103]) foll Tryz.func5 Tryz.ntmps5 (by simp [cf]) ?_
      simp only [Tryz.f5, EnterK_some, zW, zX, zD, builtinA, isLeaf, const1, Nat.reduceAdd, Nat.reduceMul, Nat.reduceSub, Nat.reduceLT, Nat.reduceLeDiff, Nat.reduceEqDiff, Nat.reduceBEq, Nat.reduceBNe, reduceIte, reduceCtorEq, Int.reduceToNat, Int.reduceLT, Int.reduceLE, Int.reduceEq, Int.reduceNe, Int.reduceNeg, ustrA, ti3, ti4, ti9, ti33, ca7, ca9, ca11, ca12, ca16, ca17, ca18, ca19, ca20, cf, Tryz.results5]
      simp only [zW, zX, zD, builtinA, isLeaf, const1, Nat.reduceAdd, Nat.reduceMul, Nat.reduceSub, Nat.reduceLT, Nat.reduceLeDiff, Nat.reduceEqDiff, Nat.reduceBEq, Nat.reduceBNe, reduceIte, reduceCtorEq, Int.reduceToNat, Int.reduceLT, Int.reduceLE, Int.reduceEq, Int.reduceNe, Int.reduceNeg, ustrA, ti3, ti4, ti9, ti33, ca7, ca9, ca11, ca12, ca16, ca17, ca18, ca19, ca20, cf, Tryz.results5, hd]
      refine callK_intro (by simp only [zW, zX, zD, builtinA, isLeaf, const1, Nat.reduceAdd, Nat.reduceMul, Nat.reduceSub, Nat.reduceLT, Nat.reduceLeDiff, Nat.reduceEqDiff, Nat.reduceBEq, Nat.reduceBNe, reduceIte, reduceCtorEq, Int.reduceToNat, Int.reduceLT, Int.reduceLE, Int.reduceEq, Int.reduceNe, Int.reduceNeg, ustrA, Option.map_some]; rfl) (hszb _ _ (by omega) (by omega)) ?_ rfl; rintro v A' ⟨rfl, rfl⟩
      rw [hv2]
      simp only [zW, zX, zD, builtinA, isLeaf, const1, Nat.reduceAdd, Nat.reduceMul, Nat.reduceSub, Nat.reduceLT, Nat.reduceLeDiff, Nat.reduceEqDiff, Nat.reduceBEq, Nat.reduceBNe, reduceIte, reduceCtorEq, Int.reduceToNat, Int.reduceLT, Int.reduceLE, Int.reduceEq, Int.reduceNe, Int.reduceNeg, ustrA, ti3, ti4, ti9, ti33, ca7, ca9, ca11, ca12, ca16, ca17, ca18, ca19, ca20, cf, Tryz.results5]
  · have hd : decide ((1048576 : Int) < (nm.length : Int)) = true := decide_eq_true (by omega)
    refine acalls_enter (cf := cf 104 [0, 1, 4, 5, 6, 7, 8, 9, 10, 11, 12, 13, 14, 15, 18, 23, 47, 52, 68, 76, 79, 95, 100, 103]) foll Tryz.func5 Tryz.ntmps5 (by simp [cf]) ?_
    simp only [Tryz.f5, EnterK_some, zW, zX, zD, builtinA, isLeaf, const1, Nat.reduceAdd, Nat.reduceMul, Nat.reduceSub, Nat.reduceLT, Nat.reduceLeDiff, Nat.reduceEqDiff, Nat.reduceBEq, Nat.reduceBNe, reduceIte, reduceCtorEq, Int.reduceToNat, Int.reduceLT, Int.reduceLE, Int.reduceEq, Int.reduceNe, Int.reduceNeg, ustrA, ti3, ti4, ti9, ti33, ca7, ca9, ca11, ca12, ca16, ca17, ca18, ca19, ca20, cf, Tryz.results5]
    simp only [zW, zX, zD, builtinA, isLeaf, const1, Nat.reduceAdd, Nat.reduceMul, Nat.reduceSub, Nat.reduceLT, Nat.reduceLeDiff, Nat.reduceEqDiff, Nat.reduceBEq, Nat.reduceBNe, reduceIte, reduceCtorEq, Int.reduceToNat, Int.reduceLT, Int.reduceLE, Int.reduceEq, Int.reduceNe, Int.reduceNeg, ustrA, ti3, ti4, ti9, ti33, ca7, ca9, ca11, ca12, ca16, ca17, ca18, ca19, ca20, cf, Tryz.results5, hd]

theorem exactFindVal_rec : ∀ t ∈ Tryz.f5.params.toList, Tryz.prog.readableRec t = true ∧ t < Tryz.prog.types.size := by
  rw [Tryz.params5]
  intro t ht
  simp at ht
  rcases ht with rfl | ht
  · exact ⟨by kernel_rfl, of_decide_eq_true (by kernel_rfl)⟩
  subst ht
  exact ⟨by kernel_rfl, of_decide_eq_true (by kernel_rfl)⟩
set_option maxRecDepth 100000 in
theorem exactFindVal_lifted (os : Os) (started : os.Started) (H : Type) (enc' : TypeId × Value → H) :
    ReturnsInHanded {} Tryz.checked os 5 .any (Rows.fnExactFindValSpec.pre6 enc' Tryz.prog Tryz.f5 Rows.fnExactFindValRow.domain false) (Rows.fnExactFindValSpec.post enc' Tryz.prog Tryz.f5 false true false false) := by
  refine returnsInHanded_of_change (C := Tryz.checked) ownk started (by kernel_rfl) Tryz.func5
    (ChangeSpec.witness6 (enc := enc') (C := Tryz.checked) false ⟨#[], #[.slice none 0 0, .string .empty], []⟩ 8 (by kernel_rfl) (by kernel_rfl) (by kernel_rfl) (by kernel_rfl)) ?_
  intro W base args ds gs before hval0 hW hcnd _
  have hval : ∀ (j : Nat) t v, Tryz.f5.params[j]? = some t → args[j]? = some v → Value.okWide Tryz.prog W .any base t v := hval0
  have hW' := hW
  obtain ⟨p, q, hA0, hV, rfl, hfz, hnd⟩ := hW
  have hA : DataW.TrodAll enc' Tryz.prog W 0 (fun _ => true) true Tryz.f5.params.toList args.toList ds p := hA0
  rw [Tryz.params5] at hA hval
  have hlt := hA.lt
  obtain ⟨v0, v1, d0, d1, p0, p1, rfl, rfl, rfl, h0, h1⟩ := trodAll_two hA
  obtain ⟨rfl, rfl⟩ := trodVars_none hV
  obtain ⟨x0, hx0, r0⟩ := rv_sigs (hval 0 22 v0 rfl rfl) h0
  obtain ⟨x1, e1, e1', e1'', ws1⟩ := open_string Tryz.underlying9 (hval 1 9 v1 rfl rfl) h1
  subst e1
  refine (law_calls (exactFindVal_true x0 hx0 x1.data.toList) (.cons r0 (.cons (rv_string _ x1) .nil))).mono fun e W' ⟨he, hb⟩ => ?_
  subst he
  exact ⟨_, rfl, law_post laid exactFindVal_rec rfl Tryz.underlying4 (by kernel_rfl) ⟨rfl, rfl⟩ rfl hW' hb⟩
theorem exactFindVal_holds : Rows.FnExactFindValSaid :=
  OpenClaim.holds_of_wide 5 Tryz.f5 rfl rfl rfl rfl rfl rfl rfl ⟨rfl, rfl, rfl, rfl, rfl⟩ rfl rfl rfl rfl rfl (by kernel_rfl) Tryz.func5 (by kernel_rfl)
    (of_decide_eq_true (by kernel_rfl)) (by unfold Func.isWrapper; first | (rw [if_pos (by decide +kernel)]; kernel_rfl) | (rw [if_neg (by decide +kernel)]; exact ⟨rfl, rfl⟩))
    (fun os started H enc' _ => exactFindVal_lifted os started H enc')
end Go.Proofs.YtjoaedbeohgciaaGreat
