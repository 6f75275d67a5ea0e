/- Marks that the laws write into what is owned. -/
import Derived.Test.YtejbjgmgdbcddaaGreatAbsW3
import Derived.Test.YtejbjgmgdbcddaaGreatOwnTy
set_option linter.unusedVariables false
set_option linter.unusedSimpArgs false
namespace Go.Proofs.YtejbjgmgdbcddaaGreat
open Go.Abs

def dig (k : Nat) : UInt8 := UInt8.ofNat (48 + k % 10)
def digs (k : Nat) (acc : List UInt8) : List UInt8 := if k = 0 then acc else digs (k / 10) (dig k :: acc)
termination_by k
decreasing_by omega
def mtx (k : Int) : List UInt8 := if k ≤ 0 then [109, 48] else 109 :: digs k.toNat []

theorem dig_eq (k : Nat) : Abs.byteOf [.int .u8 (IntKind.u8.wrap (48 + (k : Int).tmod 10))] = dig k ∧ Abs.isByte [.int .u8 (IntKind.u8.wrap (48 + (k : Int).tmod 10))] = true := by
  have h1 : (k : Int).tmod 10 = ((k % 10 : Nat) : Int) := by
    rw [Int.tmod_eq_emod_of_nonneg (by omega)]; omega
  have h2 : IntKind.u8.wrap (48 + ((k % 10 : Nat) : Int)) = ((48 + k % 10 : Nat) : Int) := by
    simp [IntKind.wrap, IntKind.signed, IntKind.bits]
    omega
  rw [h1, h2]
  exact ⟨rfl, rfl⟩

set_option maxRecDepth 100000 in
theorem laws_markText (k : Int) (hk : k ≤ 2 ^ 60) (A : List Box) : ACalls Tryz.prog 23 [.int .i64 k] A (fun r A' => r = .str (mtx k) ∧ A' = A) := by
  refine acalls_enter (cf := cf 20 [0, 2, 3, 5, 7]) foll Tryz.func23 Tryz.ntmps23 (by simp [cf]) ?_
  simp only [Tryz.f23, EnterK_some, zW, zX, zD, builtinA, isLeaf, const1, Nat.reduceAdd, Nat.reduceMul, Nat.reduceSub, Nat.reduceLT, Nat.reduceLeDiff, Nat.reduceEqDiff, Nat.reduceBEq, Nat.reduceBNe, reduceIte, reduceCtorEq, Int.reduceToNat, Int.reduceLT, Int.reduceLE, Int.reduceEq, Int.reduceNe, Int.reduceNeg, ustrA, ti3, ti5, ti9, ti72, cf, Tryz.results23]
  by_cases h0 : k ≤ 0
  · simp only [zW, zX, zD, builtinA, isLeaf, const1, Nat.reduceAdd, Nat.reduceMul, Nat.reduceSub, Nat.reduceLT, Nat.reduceLeDiff, Nat.reduceEqDiff, Nat.reduceBEq, Nat.reduceBNe, reduceIte, reduceCtorEq, Int.reduceToNat, Int.reduceLT, Int.reduceLE, Int.reduceEq, Int.reduceNe, Int.reduceNeg, ustrA, ti3, ti5, ti9, ti72, cf, Tryz.results23, decide_eq_true h0]
    simp [mtx, h0]
  · simp only [zW, zX, zD, builtinA, isLeaf, const1, Nat.reduceAdd, Nat.reduceMul, Nat.reduceSub, Nat.reduceLT, Nat.reduceLeDiff, Nat.reduceEqDiff, Nat.reduceBEq, Nat.reduceBNe, reduceIte, reduceCtorEq, Int.reduceToNat, Int.reduceLT, Int.reduceLE, Int.reduceEq, Int.reduceNe, Int.reduceNeg, ustrA, ti3, ti5, ti9, ti72, cf, Tryz.results23, decide_eq_false h0]
    refine aloop_intro [0, 3] (fun e A' => ∃ (j : Nat) (acc : List UInt8) (B : List Box), digs j acc = digs k.toNat [] ∧ acc.length + j ≤ k.toNat ∧ e = [(0, .int .i64 j), (3, .str acc)] ∧ A' = A ++ B) (fun e _ => (intOf (Abs.look 0 e)).toNat) ?_ ?_
    · refine ⟨k.toNat, [], [], rfl, by simp, ?_, by simp⟩
      simp only [zW, zX, zD, builtinA, isLeaf, const1, Nat.reduceAdd, Nat.reduceMul, Nat.reduceSub, Nat.reduceLT, Nat.reduceLeDiff, Nat.reduceEqDiff, Nat.reduceBEq, Nat.reduceBNe, reduceIte, reduceCtorEq, Int.reduceToNat, Int.reduceLT, Int.reduceLE, Int.reduceEq, Int.reduceNe, Int.reduceNeg, ustrA, ti3, ti5, ti9, ti72, cf, Tryz.results23]
      have : (k.toNat : Int) = k := by omega
      rw [this]
    · rintro e A' ⟨j, acc, B, hd, hl, rfl, rfl⟩
      simp only [zW, zX, zD, builtinA, isLeaf, const1, Nat.reduceAdd, Nat.reduceMul, Nat.reduceSub, Nat.reduceLT, Nat.reduceLeDiff, Nat.reduceEqDiff, Nat.reduceBEq, Nat.reduceBNe, reduceIte, reduceCtorEq, Int.reduceToNat, Int.reduceLT, Int.reduceLE, Int.reduceEq, Int.reduceNe, Int.reduceNeg, ustrA, ti3, ti5, ti9, ti72, cf, Tryz.results23]
      refine condK_intro (fun h2 => ?_) (fun h2 => ?_)
      · have hj : 0 < j := by simpa using h2
        have hm : (j : Int).tmod 10 = ((j % 10 : Nat) : Int) := by rw [Int.tmod_eq_emod_of_nonneg (by omega)]; omega
        have hw : IntKind.i64.wrap (48 + (j : Int).tmod 10) = 48 + (j : Int).tmod 10 := wrap64 (by omega) (by omega)
        have hq : IntKind.i64.wrap ((j : Int).tdiv 10) = ((j / 10 : Nat) : Int) := by
          have : (j : Int).tdiv 10 = ((j / 10 : Nat) : Int) := by rw [Int.tdiv_eq_ediv_of_nonneg (by omega)]; omega
          rw [this, wrap64 (by omega) (by omega)]
        simp only [zW, zX, zD, builtinA, isLeaf, const1, Nat.reduceAdd, Nat.reduceMul, Nat.reduceSub, Nat.reduceLT, Nat.reduceLeDiff, Nat.reduceEqDiff, Nat.reduceBEq, Nat.reduceBNe, reduceIte, reduceCtorEq, Int.reduceToNat, Int.reduceLT, Int.reduceLE, Int.reduceEq, Int.reduceNe, Int.reduceNeg, ustrA, ti3, ti5, ti9, ti72, cf, Tryz.results23, hw, hq, LoopK_eq]
        refine ⟨by simp, by first | (simp; done) | (simp; exact (dig_eq j).2), by omega, ⟨j / 10, dig j :: acc, _, ?_, by simp; omega, ?_, rfl⟩, ?_⟩
        · rw [← hd, digs.eq_def j, if_neg (by omega)]
        · rw [← (dig_eq j).1]
          try rfl
        · simp only [intOf]; omega
      · have hj : j = 0 := by simpa using h2
        subst hj
        simp only [zW, zX, zD, builtinA, isLeaf, const1, Nat.reduceAdd, Nat.reduceMul, Nat.reduceSub, Nat.reduceLT, Nat.reduceLeDiff, Nat.reduceEqDiff, Nat.reduceBEq, Nat.reduceBNe, reduceIte, reduceCtorEq, Int.reduceToNat, Int.reduceLT, Int.reduceLE, Int.reduceEq, Int.reduceNe, Int.reduceNeg, ustrA, ti3, ti5, ti9, ti72, cf, Tryz.results23]
        refine ⟨by omega, ?_⟩
        rw [mtx, if_neg h0, ← hd, digs.eq_def, if_pos rfl]
mutual
def markT : Ty → Int → Ty × Int
  | .mk _ _ _ ks, k => (.mk k (mtx (k + 1)) (mtx (k + 2)) (markL ks (k + 3)).1, (markL ks (k + 3)).2)
/-- a list of types behind its marking from k on, and the next mark -/
def markL : List Ty → Int → List Ty × Int
  | [], k => ([], k)
  | t :: l, k => ((markT t k).1 :: (markL l (markT t k).2).1, (markL l (markT t k).2).2)
end
mutual
theorem markT_next : ∀ (t : Ty) (k : Int), (markT t k).2 = k + 3 * count t
  | .mk _ _ _ ks, k => by rw [markT, markL_next ks (k + 3), count]; omega
theorem markL_next : ∀ (l : List Ty) (k : Int), (markL l k).2 = k + 3 * counts l
  | [], k => by simp [markL, counts]
  | t :: l, k => by rw [markL, markL_next l, markT_next t, counts]; omega
end
theorem markL_length : ∀ (l : List Ty) (k : Int), (markL l k).1.length = l.length
  | [], k => by simp [markL]
  | t :: l, k => by simp [markL, markL_length l]
theorem markL_app : ∀ (l l' : List Ty) (k : Int), markL (l ++ l') k = ((markL l k).1 ++ (markL l' (markL l k).2).1, (markL l' (markL l k).2).2)
  | [], l', k => by simp [markL]
  | t :: l, l', k => by simp [markL, markL_app l l']
theorem split_at {α : Type} (d : α) {l : List α} {p : Nat} (h : p < l.length) : l = l.take p ++ l.getD p d :: l.drop (p + 1) := by
  have : l.getD p d = l[p] := by simp [List.getD, h]
  rw [this, List.getElem_cons_drop h, List.take_append_drop]
theorem take_snoc {α : Type} (d : α) {l : List α} {p : Nat} (h : p < l.length) : l.take (p + 1) = l.take p ++ [l.getD p d] := by
  rw [List.take_add_one]; simp [List.getD, h]
theorem markL_snoc {l : List Ty} {p : Nat} (h : p < l.length) (k : Int) : markL (l.take (p + 1)) k = ((markL (l.take p) k).1 ++ [(markT (l.getD p ty0) (markL (l.take p) k).2).1], (markT (l.getD p ty0) (markL (l.take p) k).2).2) := by
  rw [take_snoc ty0 h, markL_app]
  simp [markL]
theorem markL_getD {l : List Ty} {p : Nat} (h : p < l.length) (k : Int) : (markL l k).1.getD p ty0 = (markT (l.getD p ty0) (markL (l.take p) k).2).1 := by
  conv => lhs; rw [split_at ty0 h, markL_app]
  have : (markL (l.take p) k).1.length = p := by rw [markL_length]; simp; omega
  simp [markL, List.getD, List.getElem?_append_right, this]

theorem OwnR.append {A : List Box} : ∀ {k1 k2 : List Ty} {r1 r2 : List (List AV)} {S1 S2 : List Nat}, OwnR A k1 r1 S1 → OwnR A k2 r2 S2 → OwnR A (k1 ++ k2) (r1 ++ r2) (S1 ++ S2)
  | [], k2, r1, r2, S1, S2, h1, h2 => by
    rw [OwnR] at h1
    rw [h1.1, h1.2]; exact h2
  | t :: k1, k2, r1, r2, S1, S2, h1, h2 => by
    rw [OwnR] at h1
    obtain ⟨r, r', T1, T2, rfl, rfl, h3, h4⟩ := h1
    rw [List.cons_append, OwnR]
    exact ⟨r, r' ++ r2, T1, T2 ++ S2, by simp, by simp, h3, OwnR.append h4 h2⟩

def MarkS (ks : List Ty) : Prop := ∀ (A : List Box) (v : AV) (S : List Nat) (k : Int), OwnK A ks v S → S.Nodup → 0 ≤ k → k + 3 * counts ks ≤ 2 ^ 50 →
  ACalls Tryz.prog 24 [v, .int .i64 k] A (fun r A' => r = .int .i64 (markL ks k).2 ∧ A'.length = A.length ∧ OwnK A' (markL ks k).1 v S ∧ ∀ i, i ∉ S → A'.getD i .dead = A.getD i .dead)

set_option maxRecDepth 100000 in
theorem laws_markTypeS (ks : List Ty) (hks : ks.length < 2 ^ 63) (ih : ∀ t ∈ ks, MarkS t.kids) : MarkS ks := by
  intro A v S k hO hN h0 h1
  rcases hO with ⟨rfl, rfl, rfl⟩ | ⟨rfl, rfl, rfl⟩ | ⟨i, rows, S', rfl, rfl, hb, hR⟩
  · refine acalls_enterK (cf := cf 43 [0, 1, 4, 5, 9]) foll Tryz.func24 Tryz.ntmps24 (by simp [cf]) ?_
    simp only [Tryz.f24, EnterK_some, zW, zX, zD, builtinA, isLeaf, const1, Nat.reduceAdd, Nat.reduceMul, Nat.reduceSub, Nat.reduceLT, Nat.reduceLeDiff, Nat.reduceEqDiff, Nat.reduceBEq, Nat.reduceBNe, reduceIte, reduceCtorEq, Int.reduceToNat, Int.reduceLT, Int.reduceLE, Int.reduceEq, Int.reduceNe, Int.reduceNeg, ustrA, ti3, ti9, ti40, ti42, ca23, ca24, cf, Tryz.results24]
    refine aloop_intro [0, 1, 5] (fun e A' => e = [(0, .nils), (1, .int .i64 k), (5, .int .i64 0)] ∧ A' = A) (fun e _ => 0) ?_ ?_
    · simp only [zW, zX, zD, builtinA, isLeaf, const1, Nat.reduceAdd, Nat.reduceMul, Nat.reduceSub, Nat.reduceLT, Nat.reduceLeDiff, Nat.reduceEqDiff, Nat.reduceBEq, Nat.reduceBNe, reduceIte, reduceCtorEq, Int.reduceToNat, Int.reduceLT, Int.reduceLE, Int.reduceEq, Int.reduceNe, Int.reduceNeg, ustrA, ti3, ti9, ti40, ti42, ca23, ca24, cf, Tryz.results24]
    · rintro e A' ⟨rfl, rfl⟩
      simp only [zW, zX, zD, builtinA, isLeaf, const1, Nat.reduceAdd, Nat.reduceMul, Nat.reduceSub, Nat.reduceLT, Nat.reduceLeDiff, Nat.reduceEqDiff, Nat.reduceBEq, Nat.reduceBNe, reduceIte, reduceCtorEq, Int.reduceToNat, Int.reduceLT, Int.reduceLE, Int.reduceEq, Int.reduceNe, Int.reduceNeg, ustrA, ti3, ti9, ti40, ti42, ca23, ca24, cf, Tryz.results24]
      refine condK_intro (fun h => absurd h (by simp)) (fun _ => ?_)
      simp only [zW, zX, zD, builtinA, isLeaf, const1, Nat.reduceAdd, Nat.reduceMul, Nat.reduceSub, Nat.reduceLT, Nat.reduceLeDiff, Nat.reduceEqDiff, Nat.reduceBEq, Nat.reduceBNe, reduceIte, reduceCtorEq, Int.reduceToNat, Int.reduceLT, Int.reduceLE, Int.reduceEq, Int.reduceNe, Int.reduceNeg, ustrA, ti3, ti9, ti40, ti42, ca23, ca24, cf, Tryz.results24]
      exact ⟨by simp [markL], .inl ⟨rfl, by simp [markL], rfl⟩, fun _ _ => trivial⟩
  · refine acalls_enterK (cf := cf 43 [0, 1, 4, 5, 9]) foll Tryz.func24 Tryz.ntmps24 (by simp [cf]) ?_
    simp only [Tryz.f24, EnterK_some, zW, zX, zD, builtinA, isLeaf, const1, Nat.reduceAdd, Nat.reduceMul, Nat.reduceSub, Nat.reduceLT, Nat.reduceLeDiff, Nat.reduceEqDiff, Nat.reduceBEq, Nat.reduceBNe, reduceIte, reduceCtorEq, Int.reduceToNat, Int.reduceLT, Int.reduceLE, Int.reduceEq, Int.reduceNe, Int.reduceNeg, ustrA, ti3, ti9, ti40, ti42, ca23, ca24, cf, Tryz.results24]
    refine aloop_intro [0, 1, 5] (fun e A' => e = [(0, .slice []), (1, .int .i64 k), (5, .int .i64 0)] ∧ A' = A) (fun e _ => 0) ?_ ?_
    · simp only [zW, zX, zD, builtinA, isLeaf, const1, Nat.reduceAdd, Nat.reduceMul, Nat.reduceSub, Nat.reduceLT, Nat.reduceLeDiff, Nat.reduceEqDiff, Nat.reduceBEq, Nat.reduceBNe, reduceIte, reduceCtorEq, Int.reduceToNat, Int.reduceLT, Int.reduceLE, Int.reduceEq, Int.reduceNe, Int.reduceNeg, ustrA, ti3, ti9, ti40, ti42, ca23, ca24, cf, Tryz.results24]
    · rintro e A' ⟨rfl, rfl⟩
      simp only [zW, zX, zD, builtinA, isLeaf, const1, Nat.reduceAdd, Nat.reduceMul, Nat.reduceSub, Nat.reduceLT, Nat.reduceLeDiff, Nat.reduceEqDiff, Nat.reduceBEq, Nat.reduceBNe, reduceIte, reduceCtorEq, Int.reduceToNat, Int.reduceLT, Int.reduceLE, Int.reduceEq, Int.reduceNe, Int.reduceNeg, ustrA, ti3, ti9, ti40, ti42, ca23, ca24, cf, Tryz.results24]
      refine condK_intro (fun h => absurd h (by simp)) (fun _ => ?_)
      simp only [zW, zX, zD, builtinA, isLeaf, const1, Nat.reduceAdd, Nat.reduceMul, Nat.reduceSub, Nat.reduceLT, Nat.reduceLeDiff, Nat.reduceEqDiff, Nat.reduceBEq, Nat.reduceBNe, reduceIte, reduceCtorEq, Int.reduceToNat, Int.reduceLT, Int.reduceLE, Int.reduceEq, Int.reduceNe, Int.reduceNeg, ustrA, ti3, ti9, ti40, ti42, ca23, ca24, cf, Tryz.results24]
      exact ⟨by simp [markL], .inr (.inl ⟨rfl, by simp [markL], rfl⟩), fun _ _ => trivial⟩
  · have hil := live_lt hb (by simp)
    have hlen := hR.length
    refine acalls_enterK (cf := cf 43 [0, 1, 4, 5, 9]) foll Tryz.func24 Tryz.ntmps24 (by simp [cf]) ?_
    simp only [Tryz.f24, EnterK_some, zW, zX, zD, builtinA, isLeaf, const1, Nat.reduceAdd, Nat.reduceMul, Nat.reduceSub, Nat.reduceLT, Nat.reduceLeDiff, Nat.reduceEqDiff, Nat.reduceBEq, Nat.reduceBNe, reduceIte, reduceCtorEq, Int.reduceToNat, Int.reduceLT, Int.reduceLE, Int.reduceEq, Int.reduceNe, Int.reduceNeg, ustrA, ti3, ti9, ti40, ti42, ca23, ca24, cf, Tryz.results24]
    refine aloop_intro [0, 1, 5] (fun e A' => ∃ (p : Nat) (rl rr : List (List AV)) (SL SR : List Nat), p ≤ ks.length ∧ e = [(0, .own i), (1, .int .i64 (markL (ks.take p) k).2), (5, .int .i64 p)] ∧ A'.length = A.length ∧ A'.getD i .dead = .gr none 4 (rl ++ rr) ∧ rl.length = p ∧
      OwnR A' (markL (ks.take p) k).1 rl SL ∧ OwnR A' (ks.drop p) rr SR ∧ S' = SL ++ SR ∧ ∀ j, j ∉ i :: S' → A'.getD j .dead = A.getD j .dead) (fun e _ => ks.length - (intOf (Abs.look 5 e)).toNat) ?_ ?_
    · refine ⟨0, [], rows, [], S', by omega, ?_, rfl, hb, rfl, by simp [markL, OwnR], by simpa using hR, rfl, fun _ _ => rfl⟩
      simp only [zW, zX, zD, builtinA, isLeaf, const1, Nat.reduceAdd, Nat.reduceMul, Nat.reduceSub, Nat.reduceLT, Nat.reduceLeDiff, Nat.reduceEqDiff, Nat.reduceBEq, Nat.reduceBNe, reduceIte, reduceCtorEq, Int.reduceToNat, Int.reduceLT, Int.reduceLE, Int.reduceEq, Int.reduceNe, Int.reduceNeg, ustrA, ti3, ti9, ti40, ti42, ca23, ca24, cf, Tryz.results24]
      simp [markL]
    · rintro e A' ⟨p, rl, rr, SL, SR, hp, rfl, hl, hb', hrl, hL, hRr, hS, hfr⟩
      have hrr := hRr.length
      have hrows : rl.length + rr.length = ks.length := by simp at hrr; omega
      simp only [zW, zX, zD, builtinA, isLeaf, const1, Nat.reduceAdd, Nat.reduceMul, Nat.reduceSub, Nat.reduceLT, Nat.reduceLeDiff, Nat.reduceEqDiff, Nat.reduceBEq, Nat.reduceBNe, reduceIte, reduceCtorEq, Int.reduceToNat, Int.reduceLT, Int.reduceLE, Int.reduceEq, Int.reduceNe, Int.reduceNeg, ustrA, ti3, ti9, ti40, ti42, ca23, ca24, cf, Tryz.results24, hb', hrows]
      refine condK_intro (fun h2 => ?_) (fun h2 => ?_)
      · have hp2 : p < ks.length := by simpa using h2
        have hne : i ∉ S' := (List.nodup_cons.1 hN).1
        have hnd : (SL ++ SR).Nodup := by rw [← hS]; exact (List.nodup_cons.1 hN).2
        have hdr : ks.drop p = ks.getD p ty0 :: ks.drop (p + 1) := by
          have : ks.getD p ty0 = ks[p] := by simp [List.getD, hp2]
          rw [this, List.getElem_cons_drop hp2]
        rw [hdr, OwnR] at hRr
        obtain ⟨r, rr', S1, S2, rfl, rfl, hT, hR'⟩ := hRr
        have hmem := getD_mem hp2
        obtain ⟨kk, m, n, kks, ht⟩ : ∃ kk m n kks, ks.getD p ty0 = .mk kk m n kks := by cases ks.getD p ty0; exact ⟨_, _, _, _, rfl⟩
        rw [ht, ownT_mk] at hT
        obtain ⟨vk, rfl, hK⟩ := hT
        have hil' : i < A'.length := by omega
        have hmk := markL_next (ks.take p) k
        have hct := counts_take hp2
        have hcl := counts_le ks (p + 1)
        rw [ht] at hct
        simp only [count] at hct
        generalize hk1 : (markL (ks.take p) k).2 = k1 at *
        have b0 : 0 ≤ k1 := by omega
        have b1 : k1 + 3 + 3 * counts kks ≤ 2 ^ 50 := by omega
        have w1 : IntKind.i64.wrap (k1 + 1) = k1 + 1 := wrap64 (by omega) (by omega)
        have w2 : IntKind.i64.wrap (k1 + 1 + 1) = k1 + 2 := by rw [wrap64 (by omega) (by omega)]; omega
        have w3 : IntKind.i64.wrap (k1 + 2 + 1) = k1 + 3 := by rw [wrap64 (by omega) (by omega)]; omega
        have hi1 : IntKind.i64.wrap ((p : Int) + 1) = ((p + 1 : Nat) : Int) := by rw [wrap64 (by omega) (by omega)]; rfl
        have hrp : (p : Int) < ((rl ++ [AV.int .i64 kk, .str m, .str n, vk] :: rr').length : Int) := by simp; omega
        have hg : ∀ x, ((rl ++ x :: rr').getD p []) = x := fun x => by simp [List.getD, List.getElem?_append_right, hrl]
        have hst : ∀ x y, (rl ++ x :: rr').set p y = rl ++ y :: rr' := fun x y => by rw [List.set_append_right _ _ (by omega), hrl, Nat.sub_self]; rfl
        have hgs : ∀ X, (A'.set i X).getD i .dead = X := fun X => getD_set1 hil'
        have hpl : p < rl.length + (rr'.length + 1) := by simp at hrows; omega
        have hpi : (p : Int) < ((rl.length + (rr'.length + 1) : Nat) : Int) := by omega
        simp only [zW, zX, zD, builtinA, isLeaf, const1, Nat.reduceAdd, Nat.reduceMul, Nat.reduceSub, Nat.reduceLT, Nat.reduceLeDiff, Nat.reduceEqDiff, Nat.reduceBEq, Nat.reduceBNe, reduceIte, reduceCtorEq, Int.reduceToNat, Int.reduceLT, Int.reduceLE, Int.reduceEq, Int.reduceNe, Int.reduceNeg, ustrA, ti3, ti9, ti40, ti42, ca23, ca24, cf, Tryz.results24, hb', hg, hst, hgs, List.set_set, w1]
        refine ⟨⟨by omega, hpi⟩, ⟨hpl, by simp [isElem, isLeaf]⟩, ?_⟩
        refine callK_intro (by simp only [zW, zX, zD, builtinA, isLeaf, const1, Nat.reduceAdd, Nat.reduceMul, Nat.reduceSub, Nat.reduceLT, Nat.reduceLeDiff, Nat.reduceEqDiff, Nat.reduceBEq, Nat.reduceBNe, reduceIte, reduceCtorEq, Int.reduceToNat, Int.reduceLT, Int.reduceLE, Int.reduceEq, Int.reduceNe, Int.reduceNeg, ustrA]; rfl) (laws_markText (k1 + 1) (by omega) _) ?_ rfl; rintro v A' ⟨rfl, rfl⟩
        simp only [zW, zX, zD, builtinA, isLeaf, const1, Nat.reduceAdd, Nat.reduceMul, Nat.reduceSub, Nat.reduceLT, Nat.reduceLeDiff, Nat.reduceEqDiff, Nat.reduceBEq, Nat.reduceBNe, reduceIte, reduceCtorEq, Int.reduceToNat, Int.reduceLT, Int.reduceLE, Int.reduceEq, Int.reduceNe, Int.reduceNeg, ustrA, ti3, ti9, ti40, ti42, ca23, ca24, cf, Tryz.results24, hb', hg, hst, hgs, List.set_set, w2]
        refine ⟨⟨by omega, hpi⟩, ⟨hpl, by simp [isElem, isLeaf]⟩, ?_⟩
        refine callK_intro (by simp only [zW, zX, zD, builtinA, isLeaf, const1, Nat.reduceAdd, Nat.reduceMul, Nat.reduceSub, Nat.reduceLT, Nat.reduceLeDiff, Nat.reduceEqDiff, Nat.reduceBEq, Nat.reduceBNe, reduceIte, reduceCtorEq, Int.reduceToNat, Int.reduceLT, Int.reduceLE, Int.reduceEq, Int.reduceNe, Int.reduceNeg, ustrA]; rfl) (laws_markText (k1 + 2) (by omega) _) ?_ rfl; rintro v A' ⟨rfl, rfl⟩
        simp only [zW, zX, zD, builtinA, isLeaf, const1, Nat.reduceAdd, Nat.reduceMul, Nat.reduceSub, Nat.reduceLT, Nat.reduceLeDiff, Nat.reduceEqDiff, Nat.reduceBEq, Nat.reduceBNe, reduceIte, reduceCtorEq, Int.reduceToNat, Int.reduceLT, Int.reduceLE, Int.reduceEq, Int.reduceNe, Int.reduceNeg, ustrA, ti3, ti9, ti40, ti42, ca23, ca24, cf, Tryz.results24, hb', hg, hst, hgs, List.set_set, w3]
        refine ⟨⟨by omega, hpi⟩, ⟨hpl, by simp [isElem, isLeaf]⟩, ⟨by omega, hpi⟩, ?_⟩
        have hiS1 : i ∉ S1 := fun h => hne (by rw [hS]; simp [h])
        have hm := ih _ hmem
        rw [ht] at hm
        refine callO_intro (hm _ vk S1 (k1 + 3) (hK.frame fun j hj => by rw [getD_set_ne' (fun e => hiS1 (by rw [e]; exact hj))]) ((List.nodup_append.1 (List.nodup_append.1 hnd).2.1).1) (by omega) b1) ?_
        rintro r A3 ⟨rfl, hl3, hK3, hf3⟩
        simp only [zW, zX, zD, builtinA, isLeaf, const1, Nat.reduceAdd, Nat.reduceMul, Nat.reduceSub, Nat.reduceLT, Nat.reduceLeDiff, Nat.reduceEqDiff, Nat.reduceBEq, Nat.reduceBNe, reduceIte, reduceCtorEq, Int.reduceToNat, Int.reduceLT, Int.reduceLE, Int.reduceEq, Int.reduceNe, Int.reduceNeg, ustrA, ti3, ti9, ti40, ti42, ca23, ca24, cf, Tryz.results24, hi1, LoopK_eq]
        have hms := markL_snoc hp2 k
        rw [ht, hk1, markT] at hms
        have hd1 := (List.nodup_append.1 hnd).2.2
        have hd2 := (List.nodup_append.1 (List.nodup_append.1 hnd).2.1).2.2
        have fL : ∀ j ∈ SL, A3.getD j .dead = A'.getD j .dead := fun j hj => by
          rw [hf3 j (fun h => hd1 j hj j (by simp [h]) rfl), getD_set_ne' (fun e => hne (by rw [hS, e]; simp [hj]))]
        have fR : ∀ j ∈ S2, A3.getD j .dead = A'.getD j .dead := fun j hj => by
          rw [hf3 j (fun h => hd2 j h j hj rfl), getD_set_ne' (fun e => hne (by rw [hS, e]; simp [hj]))]
        refine ⟨⟨p + 1, rl ++ [[.int .i64 k1, .str (mtx (k1 + 1)), .str (mtx (k1 + 2)), vk]], rr', SL ++ S1, S2, by omega, ?_, ?_, ?_, ?_, ?_, hR'.frame fR, by rw [hS]; simp, fun j hj => ?_⟩, ?_⟩
        · rw [hms]; rfl
        · rw [hl3]; simpa using hl
        · rw [hf3 i hiS1, getD_set_self hil']; simp
        · simp [hrl]
        · rw [hms]
          refine (hL.frame fL).append ?_
          rw [OwnR]
          refine ⟨_, _, S1, [], rfl, by simp, ?_, by simp [OwnR]⟩
          rw [ownT_mk]
          exact ⟨vk, rfl, hK3⟩
        · have hj1 : j ≠ i := fun e => hj (by simp [e])
          have hj2 : j ∉ S1 := fun h => hj (by rw [hS]; simp [h])
          rw [hf3 j hj2, getD_set_ne' (Ne.symm hj1)]
          exact hfr j hj
        · simp only [intOf]; omega
      · have hp2 : p = ks.length := by simp at h2; omega
        subst hp2
        simp only [zW, zX, zD, builtinA, isLeaf, const1, Nat.reduceAdd, Nat.reduceMul, Nat.reduceSub, Nat.reduceLT, Nat.reduceLeDiff, Nat.reduceEqDiff, Nat.reduceBEq, Nat.reduceBNe, reduceIte, reduceCtorEq, Int.reduceToNat, Int.reduceLT, Int.reduceLE, Int.reduceEq, Int.reduceNe, Int.reduceNeg, ustrA, ti3, ti9, ti40, ti42, ca23, ca24, cf, Tryz.results24]
        rw [List.take_length] at hL
        rw [List.drop_length, OwnR] at hRr
        obtain ⟨rfl, rfl⟩ := hRr
        simp only [List.append_nil] at hb' hS
        exact ⟨hl, .inr (.inr ⟨i, rl, S', rfl, rfl, hb', by rw [hS]; exact hL⟩), hfr⟩

theorem markS : ∀ (t : Ty), t.Ok → MarkS t.kids := by
  intro t
  induction t using Ty.ind with
  | h k m n ks ih =>
    intro hO
    obtain ⟨_, _, h3, h4⟩ := hO
    exact laws_markTypeS ks h3 fun t ht => ih t ht (h4 t ht)


def HeldS (ks : List Ty) : Prop := ∀ (A : List Box) (k : Int), 0 ≤ k → k + 3 * counts ks ≤ 2 ^ 50 →
  ACalls Tryz.prog 25 [.slice (encs (markL ks k).1), .int .i64 k] A (fun r A' => r = .int .i64 (markL ks k).2 ∧ A' = A)

set_option maxRecDepth 100000 in
theorem laws_heldTypeS (ks : List Ty) (hks : ks.length < 2 ^ 63) (ih : ∀ t ∈ ks, HeldS t.kids) : HeldS ks := by
  intro A k h0 h1
  have hlen : (encs (markL ks k).1).length = ks.length := by rw [encs_length, markL_length]
  refine acalls_enter (cf := cf 51 [0, 1, 4, 5, 9, 18, 28, 38, 49]) foll Tryz.func25 Tryz.ntmps25 (by simp [cf]) ?_
  simp only [Tryz.f25, EnterK_some, zW, zX, zD, builtinA, isLeaf, const1, Nat.reduceAdd, Nat.reduceMul, Nat.reduceSub, Nat.reduceLT, Nat.reduceLeDiff, Nat.reduceEqDiff, Nat.reduceBEq, Nat.reduceBNe, reduceIte, reduceCtorEq, Int.reduceToNat, Int.reduceLT, Int.reduceLE, Int.reduceEq, Int.reduceNe, Int.reduceNeg, ustrA, ti3, ti9, ti40, ti42, ca23, ca25, cf, Tryz.results25]
  refine aloop_intro [0, 1, 5] (fun e A' => ∃ (p : Nat), p ≤ ks.length ∧ e = [(0, .slice (encs (markL ks k).1)), (1, .int .i64 (markL (ks.take p) k).2), (5, .int .i64 p)] ∧ A' = A) (fun e _ => ks.length - (intOf (Abs.look 5 e)).toNat) ?_ ?_
  · refine ⟨0, by omega, ?_, rfl⟩
    simp only [zW, zX, zD, builtinA, isLeaf, const1, Nat.reduceAdd, Nat.reduceMul, Nat.reduceSub, Nat.reduceLT, Nat.reduceLeDiff, Nat.reduceEqDiff, Nat.reduceBEq, Nat.reduceBNe, reduceIte, reduceCtorEq, Int.reduceToNat, Int.reduceLT, Int.reduceLE, Int.reduceEq, Int.reduceNe, Int.reduceNeg, ustrA, ti3, ti9, ti40, ti42, ca23, ca25, cf, Tryz.results25]
    simp [markL]
  · rintro e A' ⟨p, hp, rfl, rfl⟩
    simp only [zW, zX, zD, builtinA, isLeaf, const1, Nat.reduceAdd, Nat.reduceMul, Nat.reduceSub, Nat.reduceLT, Nat.reduceLeDiff, Nat.reduceEqDiff, Nat.reduceBEq, Nat.reduceBNe, reduceIte, reduceCtorEq, Int.reduceToNat, Int.reduceLT, Int.reduceLE, Int.reduceEq, Int.reduceNe, Int.reduceNeg, ustrA, ti3, ti9, ti40, ti42, ca23, ca25, cf, Tryz.results25, hlen]
    refine condK_intro (fun h2 => ?_) (fun h2 => ?_)
    · have hp2 : p < ks.length := by simpa using h2
      have hmem := getD_mem hp2
      have hmk := markL_next (ks.take p) k
      have hct := counts_take hp2
      have hcl := counts_le ks (p + 1)
      have hel := encs_getD (l := (markL ks k).1) (i := p) (by rw [markL_length]; exact hp2)
      have hms := markL_snoc hp2 k
      rw [markL_getD hp2] at hel
      obtain ⟨kk, m, n, kks, ht⟩ : ∃ kk m n kks, ks.getD p ty0 = .mk kk m n kks := by cases ks.getD p ty0; exact ⟨_, _, _, _, rfl⟩
      have hm := ih _ hmem
      rw [ht] at hct hel hms hm
      simp only [count] at hct
      generalize hk1 : (markL (ks.take p) k).2 = k1 at *
      simp only [markT, Ty.kids] at hel hms hm
      rw [enc4] at hel
      have b0 : 0 ≤ k1 := by omega
      have b1 : k1 + 3 + 3 * counts kks ≤ 2 ^ 50 := by omega
      have hmn := markL_next kks (k1 + 3)
      have w1 : IntKind.i64.wrap (k1 + 1) = k1 + 1 := wrap64 (by omega) (by omega)
      have w2 : IntKind.i64.wrap (k1 + 1 + 1) = k1 + 2 := by rw [wrap64 (by omega) (by omega)]; omega
      have w3 : IntKind.i64.wrap (k1 + 2 + 1) = k1 + 3 := by rw [wrap64 (by omega) (by omega)]; omega
      have hi1 : IntKind.i64.wrap ((p : Int) + 1) = ((p + 1 : Nat) : Int) := by rw [wrap64 (by omega) (by omega)]; rfl
      have hpi : (p : Int) < (ks.length : Int) := by omega
      have d0 : ∀ x : Int, decide (¬ x = x) = false := fun x => by simp
      have d1 : ∀ x : List UInt8, decide (¬ x = x) = false := fun x => by simp
      simp only [zW, zX, zD, builtinA, isLeaf, const1, Nat.reduceAdd, Nat.reduceMul, Nat.reduceSub, Nat.reduceLT, Nat.reduceLeDiff, Nat.reduceEqDiff, Nat.reduceBEq, Nat.reduceBNe, reduceIte, reduceCtorEq, Int.reduceToNat, Int.reduceLT, Int.reduceLE, Int.reduceEq, Int.reduceNe, Int.reduceNeg, ustrA, ti3, ti9, ti40, ti42, ca23, ca25, cf, Tryz.results25, hel, hlen, w1, w2, w3]
      refine ⟨⟨by omega, hpi⟩, .inl ⟨by kernel_rfl, by kernel_rfl, ⟨by omega, hpi⟩, ?_⟩⟩
      refine callD_intro (by simp only [zW, zX, zD, builtinA, isLeaf, const1, Nat.reduceAdd, Nat.reduceMul, Nat.reduceSub, Nat.reduceLT, Nat.reduceLeDiff, Nat.reduceEqDiff, Nat.reduceBEq, Nat.reduceBNe, reduceIte, reduceCtorEq, Int.reduceToNat, Int.reduceLT, Int.reduceLE, Int.reduceEq, Int.reduceNe, Int.reduceNeg, ustrA, Option.map_some] <;> rfl) (laws_markText (k1 + 1) (by omega) _) ?_ rfl
      simp only [zW, zX, zD, builtinA, isLeaf, const1, Nat.reduceAdd, Nat.reduceMul, Nat.reduceSub, Nat.reduceLT, Nat.reduceLeDiff, Nat.reduceEqDiff, Nat.reduceBEq, Nat.reduceBNe, reduceIte, reduceCtorEq, Int.reduceToNat, Int.reduceLT, Int.reduceLE, Int.reduceEq, Int.reduceNe, Int.reduceNeg, ustrA, ti3, ti9, ti40, ti42, ca23, ca25, cf, Tryz.results25, hel, hlen, w1, w2, w3]
      refine .inl ⟨by kernel_rfl, by kernel_rfl, ⟨by omega, hpi⟩, ?_⟩
      refine callD_intro (by simp only [zW, zX, zD, builtinA, isLeaf, const1, Nat.reduceAdd, Nat.reduceMul, Nat.reduceSub, Nat.reduceLT, Nat.reduceLeDiff, Nat.reduceEqDiff, Nat.reduceBEq, Nat.reduceBNe, reduceIte, reduceCtorEq, Int.reduceToNat, Int.reduceLT, Int.reduceLE, Int.reduceEq, Int.reduceNe, Int.reduceNeg, ustrA, Option.map_some] <;> rfl) (laws_markText (k1 + 2) (by omega) _) ?_ rfl
      simp only [zW, zX, zD, builtinA, isLeaf, const1, Nat.reduceAdd, Nat.reduceMul, Nat.reduceSub, Nat.reduceLT, Nat.reduceLeDiff, Nat.reduceEqDiff, Nat.reduceBEq, Nat.reduceBNe, reduceIte, reduceCtorEq, Int.reduceToNat, Int.reduceLT, Int.reduceLE, Int.reduceEq, Int.reduceNe, Int.reduceNeg, ustrA, ti3, ti9, ti40, ti42, ca23, ca25, cf, Tryz.results25, hel, hlen, w1, w2, w3]
      refine ⟨⟨by omega, hpi⟩, ?_⟩
      refine callK_intro (by simp only [zW, zX, zD, builtinA, isLeaf, const1, Nat.reduceAdd, Nat.reduceMul, Nat.reduceSub, Nat.reduceLT, Nat.reduceLeDiff, Nat.reduceEqDiff, Nat.reduceBEq, Nat.reduceBNe, reduceIte, reduceCtorEq, Int.reduceToNat, Int.reduceLT, Int.reduceLE, Int.reduceEq, Int.reduceNe, Int.reduceNeg, ustrA, Option.map_some]; rfl) (hm _ (k1 + 3) (by omega) b1) ?_ rfl; rintro v A' ⟨rfl, rfl⟩
      have hge : decide ((markL kks (k1 + 3)).2 < 0) = false := by rw [hmn]; exact decide_eq_false (by omega)
      simp only [zW, zX, zD, builtinA, isLeaf, const1, Nat.reduceAdd, Nat.reduceMul, Nat.reduceSub, Nat.reduceLT, Nat.reduceLeDiff, Nat.reduceEqDiff, Nat.reduceBEq, Nat.reduceBNe, reduceIte, reduceCtorEq, Int.reduceToNat, Int.reduceLT, Int.reduceLE, Int.reduceEq, Int.reduceNe, Int.reduceNeg, ustrA, ti3, ti9, ti40, ti42, ca23, ca25, cf, Tryz.results25, hge, hi1, LoopK_eq]
      refine ⟨⟨p + 1, by omega, ?_⟩, ?_⟩
      · rw [hms]
      · simp only [intOf]; omega
    · have hp2 : p = ks.length := by simp at h2; omega
      subst hp2
      simp only [zW, zX, zD, builtinA, isLeaf, const1, Nat.reduceAdd, Nat.reduceMul, Nat.reduceSub, Nat.reduceLT, Nat.reduceLeDiff, Nat.reduceEqDiff, Nat.reduceBEq, Nat.reduceBNe, reduceIte, reduceCtorEq, Int.reduceToNat, Int.reduceLT, Int.reduceLE, Int.reduceEq, Int.reduceNe, Int.reduceNeg, ustrA, ti3, ti9, ti40, ti42, ca23, ca25, cf, Tryz.results25, List.take_length]

theorem heldS : ∀ (t : Ty), t.Ok → HeldS t.kids := by
  intro t
  induction t using Ty.ind with
  | h k m n ks ih =>
    intro hO
    obtain ⟨_, _, h3, h4⟩ := hO
    exact laws_heldTypeS ks h3 fun t ht => ih t ht (h4 t ht)


/-! ### reading what is owned -/
theorem borrow0 {P : Program} {f : FuncId} {args args' : List AV} {A : List Box} {x : AV} (hv : Views A args args') (hx : ifree x = true) (h : ∀ A, ACalls P f args' A (fun v A' => v = x ∧ A' = A)) : ACalls P f args A (fun v A' => v = x ∧ A' = A) :=
  ACalls.borrow hv ((h _).mono fun v A' ⟨h1, h2⟩ => ⟨[], by rw [h2, List.append_nil], by rw [h1]; exact hx, by simp, h1, by simp⟩)
end Go.Proofs.YtejbjgmgdbcddaaGreat
