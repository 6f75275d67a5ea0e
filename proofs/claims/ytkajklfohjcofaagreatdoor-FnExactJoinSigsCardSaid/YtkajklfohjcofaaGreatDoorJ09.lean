/- OwnMark, OwnTo, OwnBd, SubNew. -/
import Derived.Test.YtkajklfohjcofaaGreatDoorJ08
import Derived.Test.YtkajklfohjcofaaGreatDoorAbsW3
/- Marks that the laws write into what is owned. -/
set_option linter.unusedVariables false
set_option linter.unusedSimpArgs false
namespace Go.Proofs.YtkajklfohjcofaaGreatDoor
open Go.Abs

def dig (k : Nat) : UInt8 := UInt8.ofNat (48 + k % 10)
def digs (k : Nat) (acc : List UInt8) : List UInt8 := if k = 0 then acc else digs (k / 10) (dig k :: acc)
termination_by k
decreasing_by omega
def mtx (k : Int) : List UInt8 := if k ≤ 0 then [109, 48] else 109 :: digs k.toNat []

theorem dig_eq (k : Nat) : Abs.byteOf [.int .u8 (IntKind.u8.wrap (48 + (k : Int).tmod 10))] = dig k ∧ Abs.isByte [.int .u8 (IntKind.u8.wrap (48 + (k : Int).tmod 10))] = true := by
  have h1 : (k : Int).tmod 10 = ((k % 10 : Nat) : Int) := by
    rw [Int.tmod_eq_emod_of_nonneg (by omega)]; omega
  have h2 : IntKind.u8.wrap (48 + ((k % 10 : Nat) : Int)) = ((48 + k % 10 : Nat) : Int) := by
    simp [IntKind.wrap, IntKind.signed, IntKind.bits]
    omega
  rw [h1, h2]
  exact ⟨rfl, rfl⟩

set_option maxRecDepth 100000 in
theorem laws_markText (k : Int) (hk : k ≤ 2 ^ 60) (A : List Box) : ACalls Tryz.prog 58 [.int .i64 k] A (fun r A' => r = .str (mtx k) ∧ A' = A) := by
  refine acalls_enter (cf := cf 20 [0, 2, 3, 5, 7]) foll Tryz.func58 Tryz.ntmps58 (by simp [cf]) ?_
  simp only [Tryz.f58, EnterK_some, zW, zX, zD, builtinA, isLeaf, const1, Nat.reduceAdd, Nat.reduceMul, Nat.reduceSub, Nat.reduceLT, Nat.reduceLeDiff, Nat.reduceEqDiff, Nat.reduceBEq, Nat.reduceBNe, reduceIte, reduceCtorEq, Int.reduceToNat, Int.reduceLT, Int.reduceLE, Int.reduceEq, Int.reduceNe, Int.reduceNeg, ustrA, ti3, ti5, ti9, ti34, cf, Tryz.results58]
  by_cases h0 : k ≤ 0
  · simp only [zW, zX, zD, builtinA, isLeaf, const1, Nat.reduceAdd, Nat.reduceMul, Nat.reduceSub, Nat.reduceLT, Nat.reduceLeDiff, Nat.reduceEqDiff, Nat.reduceBEq, Nat.reduceBNe, reduceIte, reduceCtorEq, Int.reduceToNat, Int.reduceLT, Int.reduceLE, Int.reduceEq, Int.reduceNe, Int.reduceNeg, ustrA, ti3, ti5, ti9, ti34, cf, Tryz.results58, decide_eq_true h0]
    simp [mtx, h0]
  · simp only [zW, zX, zD, builtinA, isLeaf, const1, Nat.reduceAdd, Nat.reduceMul, Nat.reduceSub, Nat.reduceLT, Nat.reduceLeDiff, Nat.reduceEqDiff, Nat.reduceBEq, Nat.reduceBNe, reduceIte, reduceCtorEq, Int.reduceToNat, Int.reduceLT, Int.reduceLE, Int.reduceEq, Int.reduceNe, Int.reduceNeg, ustrA, ti3, ti5, ti9, ti34, cf, Tryz.results58, decide_eq_false h0]
    refine aloop_intro [0, 3] (fun e A' => ∃ (j : Nat) (acc : List UInt8) (B : List Box), digs j acc = digs k.toNat [] ∧ acc.length + j ≤ k.toNat ∧ e = [(0, .int .i64 j), (3, .str acc)] ∧ A' = A ++ B) (fun e _ => (intOf (Abs.look 0 e)).toNat) ?_ ?_
    · refine ⟨k.toNat, [], [], rfl, by simp, ?_, by simp⟩
      simp only [zW, zX, zD, builtinA, isLeaf, const1, Nat.reduceAdd, Nat.reduceMul, Nat.reduceSub, Nat.reduceLT, Nat.reduceLeDiff, Nat.reduceEqDiff, Nat.reduceBEq, Nat.reduceBNe, reduceIte, reduceCtorEq, Int.reduceToNat, Int.reduceLT, Int.reduceLE, Int.reduceEq, Int.reduceNe, Int.reduceNeg, ustrA, ti3, ti5, ti9, ti34, cf, Tryz.results58]
      have : (k.toNat : Int) = k := by omega
      rw [this]
    · rintro e A' ⟨j, acc, B, hd, hl, rfl, rfl⟩
      simp only [zW, zX, zD, builtinA, isLeaf, const1, Nat.reduceAdd, Nat.reduceMul, Nat.reduceSub, Nat.reduceLT, Nat.reduceLeDiff, Nat.reduceEqDiff, Nat.reduceBEq, Nat.reduceBNe, reduceIte, reduceCtorEq, Int.reduceToNat, Int.reduceLT, Int.reduceLE, Int.reduceEq, Int.reduceNe, Int.reduceNeg, ustrA, ti3, ti5, ti9, ti34, cf, Tryz.results58]
      refine condK_intro (fun h2 => ?_) (fun h2 => ?_)
      · have hj : 0 < j := by simpa using h2
        have hm : (j : Int).tmod 10 = ((j % 10 : Nat) : Int) := by rw [Int.tmod_eq_emod_of_nonneg (by omega)]; omega
        have hw : IntKind.i64.wrap (48 + (j : Int).tmod 10) = 48 + (j : Int).tmod 10 := wrap64 (by omega) (by omega)
        have hq : IntKind.i64.wrap ((j : Int).tdiv 10) = ((j / 10 : Nat) : Int) := by
          have : (j : Int).tdiv 10 = ((j / 10 : Nat) : Int) := by rw [Int.tdiv_eq_ediv_of_nonneg (by omega)]; omega
          rw [this, wrap64 (by omega) (by omega)]
        simp only [zW, zX, zD, builtinA, isLeaf, const1, Nat.reduceAdd, Nat.reduceMul, Nat.reduceSub, Nat.reduceLT, Nat.reduceLeDiff, Nat.reduceEqDiff, Nat.reduceBEq, Nat.reduceBNe, reduceIte, reduceCtorEq, Int.reduceToNat, Int.reduceLT, Int.reduceLE, Int.reduceEq, Int.reduceNe, Int.reduceNeg, ustrA, ti3, ti5, ti9, ti34, cf, Tryz.results58, hw, hq, LoopK_eq]
        refine ⟨by simp, by first | (simp; done) | (simp; exact (dig_eq j).2), by omega, ⟨j / 10, dig j :: acc, _, ?_, by simp; omega, ?_, rfl⟩, ?_⟩
        · rw [← hd, digs.eq_def j, if_neg (by omega)]
        · rw [← (dig_eq j).1]
          try rfl
        · simp only [intOf]; omega
      · have hj : j = 0 := by simpa using h2
        subst hj
        simp only [zW, zX, zD, builtinA, isLeaf, const1, Nat.reduceAdd, Nat.reduceMul, Nat.reduceSub, Nat.reduceLT, Nat.reduceLeDiff, Nat.reduceEqDiff, Nat.reduceBEq, Nat.reduceBNe, reduceIte, reduceCtorEq, Int.reduceToNat, Int.reduceLT, Int.reduceLE, Int.reduceEq, Int.reduceNe, Int.reduceNeg, ustrA, ti3, ti5, ti9, ti34, cf, Tryz.results58]
        refine ⟨by omega, ?_⟩
        rw [mtx, if_neg h0, ← hd, digs.eq_def, if_pos rfl]
mutual
def markT : Ty → Int → Ty × Int
  | .mk _ _ _ ks, k => (.mk k (mtx (k + 1)) (mtx (k + 2)) (markL ks (k + 3)).1, (markL ks (k + 3)).2)
/-- a list of types behind its marking from k on, and the next mark -/
def markL : List Ty → Int → List Ty × Int
  | [], k => ([], k)
  | t :: l, k => ((markT t k).1 :: (markL l (markT t k).2).1, (markL l (markT t k).2).2)
end
mutual
theorem markT_next : ∀ (t : Ty) (k : Int), (markT t k).2 = k + 3 * count t
  | .mk _ _ _ ks, k => by rw [markT, markL_next ks (k + 3), count]; omega
theorem markL_next : ∀ (l : List Ty) (k : Int), (markL l k).2 = k + 3 * counts l
  | [], k => by simp [markL, counts]
  | t :: l, k => by rw [markL, markL_next l, markT_next t, counts]; omega
end
theorem markL_length : ∀ (l : List Ty) (k : Int), (markL l k).1.length = l.length
  | [], k => by simp [markL]
  | t :: l, k => by simp [markL, markL_length l]
theorem markL_app : ∀ (l l' : List Ty) (k : Int), markL (l ++ l') k = ((markL l k).1 ++ (markL l' (markL l k).2).1, (markL l' (markL l k).2).2)
  | [], l', k => by simp [markL]
  | t :: l, l', k => by simp [markL, markL_app l l']
theorem split_at {α : Type} (d : α) {l : List α} {p : Nat} (h : p < l.length) : l = l.take p ++ l.getD p d :: l.drop (p + 1) := by
  have : l.getD p d = l[p] := by simp [List.getD, h]
  rw [this, List.getElem_cons_drop h, List.take_append_drop]
theorem take_snoc {α : Type} (d : α) {l : List α} {p : Nat} (h : p < l.length) : l.take (p + 1) = l.take p ++ [l.getD p d] := by
  rw [List.take_add_one]; simp [List.getD, h]
theorem markL_snoc {l : List Ty} {p : Nat} (h : p < l.length) (k : Int) : markL (l.take (p + 1)) k = ((markL (l.take p) k).1 ++ [(markT (l.getD p ty0) (markL (l.take p) k).2).1], (markT (l.getD p ty0) (markL (l.take p) k).2).2) := by
  rw [take_snoc ty0 h, markL_app]
  simp [markL]
theorem markL_getD {l : List Ty} {p : Nat} (h : p < l.length) (k : Int) : (markL l k).1.getD p ty0 = (markT (l.getD p ty0) (markL (l.take p) k).2).1 := by
  conv => lhs; rw [split_at ty0 h, markL_app]
  have : (markL (l.take p) k).1.length = p := by rw [markL_length]; simp; omega
  simp [markL, List.getD, List.getElem?_append_right, this]

theorem OwnR.append {A : List Box} : ∀ {k1 k2 : List Ty} {r1 r2 : List (List AV)} {S1 S2 : List Nat}, OwnR A k1 r1 S1 → OwnR A k2 r2 S2 → OwnR A (k1 ++ k2) (r1 ++ r2) (S1 ++ S2)
  | [], k2, r1, r2, S1, S2, h1, h2 => by
    rw [OwnR] at h1
    rw [h1.1, h1.2]; exact h2
  | t :: k1, k2, r1, r2, S1, S2, h1, h2 => by
    rw [OwnR] at h1
    obtain ⟨r, r', T1, T2, rfl, rfl, h3, h4⟩ := h1
    rw [List.cons_append, OwnR]
    exact ⟨r, r' ++ r2, T1, T2 ++ S2, by simp, by simp, h3, OwnR.append h4 h2⟩

def MarkS (ks : List Ty) : Prop := ∀ (A : List Box) (v : AV) (S : List Nat) (k : Int), OwnK A ks v S → S.Nodup → 0 ≤ k → k + 3 * counts ks ≤ 2 ^ 50 →
  ACalls Tryz.prog 59 [v, .int .i64 k] A (fun r A' => r = .int .i64 (markL ks k).2 ∧ A'.length = A.length ∧ OwnK A' (markL ks k).1 v S ∧ ∀ i, i ∉ S → A'.getD i .dead = A.getD i .dead)

set_option maxRecDepth 100000 in
theorem laws_markTypeS (ks : List Ty) (hks : ks.length < 2 ^ 63) (ih : ∀ t ∈ ks, MarkS t.kids) : MarkS ks := by
  intro A v S k hO hN h0 h1
  rcases hO with ⟨rfl, rfl, rfl⟩ | ⟨rfl, rfl, rfl⟩ | ⟨i, rows, S', rfl, rfl, hb, hR⟩
  · refine acalls_enterK (cf := cf 43 [0, 1, 4, 5, 9]) foll Tryz.func59 Tryz.ntmps59 (by simp [cf]) ?_
    simp only [Tryz.f59, EnterK_some, zW, zX, zD, builtinA, isLeaf, const1, Nat.reduceAdd, Nat.reduceMul, Nat.reduceSub, Nat.reduceLT, Nat.reduceLeDiff, Nat.reduceEqDiff, Nat.reduceBEq, Nat.reduceBNe, reduceIte, reduceCtorEq, Int.reduceToNat, Int.reduceLT, Int.reduceLE, Int.reduceEq, Int.reduceNe, Int.reduceNeg, ustrA, ti3, ti9, ti43, ti45, ca58, ca59, cf, Tryz.results59]
    refine aloop_intro [0, 1, 5] (fun e A' => e = [(0, .nils), (1, .int .i64 k), (5, .int .i64 0)] ∧ A' = A) (fun e _ => 0) ?_ ?_
    · simp only [zW, zX, zD, builtinA, isLeaf, const1, Nat.reduceAdd, Nat.reduceMul, Nat.reduceSub, Nat.reduceLT, Nat.reduceLeDiff, Nat.reduceEqDiff, Nat.reduceBEq, Nat.reduceBNe, reduceIte, reduceCtorEq, Int.reduceToNat, Int.reduceLT, Int.reduceLE, Int.reduceEq, Int.reduceNe, Int.reduceNeg, ustrA, ti3, ti9, ti43, ti45, ca58, ca59, cf, Tryz.results59]
    · rintro e A' ⟨rfl, rfl⟩
      simp only [zW, zX, zD, builtinA, isLeaf, const1, Nat.reduceAdd, Nat.reduceMul, Nat.reduceSub, Nat.reduceLT, Nat.reduceLeDiff, Nat.reduceEqDiff, Nat.reduceBEq, Nat.reduceBNe, reduceIte, reduceCtorEq, Int.reduceToNat, Int.reduceLT, Int.reduceLE, Int.reduceEq, Int.reduceNe, Int.reduceNeg, ustrA, ti3, ti9, ti43, ti45, ca58, ca59, cf, Tryz.results59]
      refine condK_intro (fun h => absurd h (by simp)) (fun _ => ?_)
      simp only [zW, zX, zD, builtinA, isLeaf, const1, Nat.reduceAdd, Nat.reduceMul, Nat.reduceSub, Nat.reduceLT, Nat.reduceLeDiff, Nat.reduceEqDiff, Nat.reduceBEq, Nat.reduceBNe, reduceIte, reduceCtorEq, Int.reduceToNat, Int.reduceLT, Int.reduceLE, Int.reduceEq, Int.reduceNe, Int.reduceNeg, ustrA, ti3, ti9, ti43, ti45, ca58, ca59, cf, Tryz.results59]
      exact ⟨by simp [markL], .inl ⟨rfl, by simp [markL], rfl⟩, fun _ _ => trivial⟩
  · refine acalls_enterK (cf := cf 43 [0, 1, 4, 5, 9]) foll Tryz.func59 Tryz.ntmps59 (by simp [cf]) ?_
    simp only [Tryz.f59, EnterK_some, zW, zX, zD, builtinA, isLeaf, const1, Nat.reduceAdd, Nat.reduceMul, Nat.reduceSub, Nat.reduceLT, Nat.reduceLeDiff, Nat.reduceEqDiff, Nat.reduceBEq, Nat.reduceBNe, reduceIte, reduceCtorEq, Int.reduceToNat, Int.reduceLT, Int.reduceLE, Int.reduceEq, Int.reduceNe, Int.reduceNeg, ustrA, ti3, ti9, ti43, ti45, ca58, ca59, cf, Tryz.results59]
    refine aloop_intro [0, 1, 5] (fun e A' => e = [(0, .slice []), (1, .int .i64 k), (5, .int .i64 0)] ∧ A' = A) (fun e _ => 0) ?_ ?_
    · simp only [zW, zX, zD, builtinA, isLeaf, const1, Nat.reduceAdd, Nat.reduceMul, Nat.reduceSub, Nat.reduceLT, Nat.reduceLeDiff, Nat.reduceEqDiff, Nat.reduceBEq, Nat.reduceBNe, reduceIte, reduceCtorEq, Int.reduceToNat, Int.reduceLT, Int.reduceLE, Int.reduceEq, Int.reduceNe, Int.reduceNeg, ustrA, ti3, ti9, ti43, ti45, ca58, ca59, cf, Tryz.results59]
    · rintro e A' ⟨rfl, rfl⟩
      simp only [zW, zX, zD, builtinA, isLeaf, const1, Nat.reduceAdd, Nat.reduceMul, Nat.reduceSub, Nat.reduceLT, Nat.reduceLeDiff, Nat.reduceEqDiff, Nat.reduceBEq, Nat.reduceBNe, reduceIte, reduceCtorEq, Int.reduceToNat, Int.reduceLT, Int.reduceLE, Int.reduceEq, Int.reduceNe, Int.reduceNeg, ustrA, ti3, ti9, ti43, ti45, ca58, ca59, cf, Tryz.results59]
      refine condK_intro (fun h => absurd h (by simp)) (fun _ => ?_)
      simp only [zW, zX, zD, builtinA, isLeaf, const1, Nat.reduceAdd, Nat.reduceMul, Nat.reduceSub, Nat.reduceLT, Nat.reduceLeDiff, Nat.reduceEqDiff, Nat.reduceBEq, Nat.reduceBNe, reduceIte, reduceCtorEq, Int.reduceToNat, Int.reduceLT, Int.reduceLE, Int.reduceEq, Int.reduceNe, Int.reduceNeg, ustrA, ti3, ti9, ti43, ti45, ca58, ca59, cf, Tryz.results59]
      exact ⟨by simp [markL], .inr (.inl ⟨rfl, by simp [markL], rfl⟩), fun _ _ => trivial⟩
  · have hil := live_lt hb (by simp)
    have hlen := hR.length
    refine acalls_enterK (cf := cf 43 [0, 1, 4, 5, 9]) foll Tryz.func59 Tryz.ntmps59 (by simp [cf]) ?_
    simp only [Tryz.f59, EnterK_some, zW, zX, zD, builtinA, isLeaf, const1, Nat.reduceAdd, Nat.reduceMul, Nat.reduceSub, Nat.reduceLT, Nat.reduceLeDiff, Nat.reduceEqDiff, Nat.reduceBEq, Nat.reduceBNe, reduceIte, reduceCtorEq, Int.reduceToNat, Int.reduceLT, Int.reduceLE, Int.reduceEq, Int.reduceNe, Int.reduceNeg, ustrA, ti3, ti9, ti43, ti45, ca58, ca59, cf, Tryz.results59]
    refine aloop_intro [0, 1, 5] (fun e A' => ∃ (p : Nat) (rl rr : List (List AV)) (SL SR : List Nat), p ≤ ks.length ∧ e = [(0, .own i), (1, .int .i64 (markL (ks.take p) k).2), (5, .int .i64 p)] ∧ A'.length = A.length ∧ A'.getD i .dead = .gr none 4 (rl ++ rr) ∧ rl.length = p ∧
      OwnR A' (markL (ks.take p) k).1 rl SL ∧ OwnR A' (ks.drop p) rr SR ∧ S' = SL ++ SR ∧ ∀ j, j ∉ i :: S' → A'.getD j .dead = A.getD j .dead) (fun e _ => ks.length - (intOf (Abs.look 5 e)).toNat) ?_ ?_
    · refine ⟨0, [], rows, [], S', by omega, ?_, rfl, hb, rfl, by simp [markL, OwnR], by simpa using hR, rfl, fun _ _ => rfl⟩
      simp only [zW, zX, zD, builtinA, isLeaf, const1, Nat.reduceAdd, Nat.reduceMul, Nat.reduceSub, Nat.reduceLT, Nat.reduceLeDiff, Nat.reduceEqDiff, Nat.reduceBEq, Nat.reduceBNe, reduceIte, reduceCtorEq, Int.reduceToNat, Int.reduceLT, Int.reduceLE, Int.reduceEq, Int.reduceNe, Int.reduceNeg, ustrA, ti3, ti9, ti43, ti45, ca58, ca59, cf, Tryz.results59]
      simp [markL]
    · rintro e A' ⟨p, rl, rr, SL, SR, hp, rfl, hl, hb', hrl, hL, hRr, hS, hfr⟩
      have hrr := hRr.length
      have hrows : rl.length + rr.length = ks.length := by simp at hrr; omega
      simp only [zW, zX, zD, builtinA, isLeaf, const1, Nat.reduceAdd, Nat.reduceMul, Nat.reduceSub, Nat.reduceLT, Nat.reduceLeDiff, Nat.reduceEqDiff, Nat.reduceBEq, Nat.reduceBNe, reduceIte, reduceCtorEq, Int.reduceToNat, Int.reduceLT, Int.reduceLE, Int.reduceEq, Int.reduceNe, Int.reduceNeg, ustrA, ti3, ti9, ti43, ti45, ca58, ca59, cf, Tryz.results59, hb', hrows]
      refine condK_intro (fun h2 => ?_) (fun h2 => ?_)
      · have hp2 : p < ks.length := by simpa using h2
        have hne : i ∉ S' := (List.nodup_cons.1 hN).1
        have hnd : (SL ++ SR).Nodup := by rw [← hS]; exact (List.nodup_cons.1 hN).2
        have hdr : ks.drop p = ks.getD p ty0 :: ks.drop (p + 1) := by
          have : ks.getD p ty0 = ks[p] := by simp [List.getD, hp2]
          rw [this, List.getElem_cons_drop hp2]
        rw [hdr, OwnR] at hRr
        obtain ⟨r, rr', S1, S2, rfl, rfl, hT, hR'⟩ := hRr
        have hmem := getD_mem hp2
        obtain ⟨kk, m, n, kks, ht⟩ : ∃ kk m n kks, ks.getD p ty0 = .mk kk m n kks := by cases ks.getD p ty0; exact ⟨_, _, _, _, rfl⟩
        rw [ht, ownT_mk] at hT
        obtain ⟨vk, rfl, hK⟩ := hT
        have hil' : i < A'.length := by omega
        have hmk := markL_next (ks.take p) k
        have hct := counts_take hp2
        have hcl := counts_le ks (p + 1)
        rw [ht] at hct
        simp only [count] at hct
        generalize hk1 : (markL (ks.take p) k).2 = k1 at *
        have b0 : 0 ≤ k1 := by omega
        have b1 : k1 + 3 + 3 * counts kks ≤ 2 ^ 50 := by omega
        have w1 : IntKind.i64.wrap (k1 + 1) = k1 + 1 := wrap64 (by omega) (by omega)
        have w2 : IntKind.i64.wrap (k1 + 1 + 1) = k1 + 2 := by rw [wrap64 (by omega) (by omega)]; omega
        have w3 : IntKind.i64.wrap (k1 + 2 + 1) = k1 + 3 := by rw [wrap64 (by omega) (by omega)]; omega
        have hi1 : IntKind.i64.wrap ((p : Int) + 1) = ((p + 1 : Nat) : Int) := by rw [wrap64 (by omega) (by omega)]; rfl
        have hrp : (p : Int) < ((rl ++ [AV.int .i64 kk, .str m, .str n, vk] :: rr').length : Int) := by simp; omega
        have hg : ∀ x, ((rl ++ x :: rr').getD p []) = x := fun x => by simp [List.getD, List.getElem?_append_right, hrl]
        have hst : ∀ x y, (rl ++ x :: rr').set p y = rl ++ y :: rr' := fun x y => by rw [List.set_append_right _ _ (by omega), hrl, Nat.sub_self]; rfl
        have hgs : ∀ X, (A'.set i X).getD i .dead = X := fun X => getD_set1 hil'
        have hpl : p < rl.length + (rr'.length + 1) := by simp at hrows; omega
        have hpi : (p : Int) < ((rl.length + (rr'.length + 1) : Nat) : Int) := by omega
        simp only [zW, zX, zD, builtinA, isLeaf, const1, Nat.reduceAdd, Nat.reduceMul, Nat.reduceSub, Nat.reduceLT, Nat.reduceLeDiff, Nat.reduceEqDiff, Nat.reduceBEq, Nat.reduceBNe, reduceIte, reduceCtorEq, Int.reduceToNat, Int.reduceLT, Int.reduceLE, Int.reduceEq, Int.reduceNe, Int.reduceNeg, ustrA, ti3, ti9, ti43, ti45, ca58, ca59, cf, Tryz.results59, hb', hg, hst, hgs, List.set_set, w1]
        refine ⟨⟨by omega, hpi⟩, ⟨hpl, by simp [isElem, isLeaf]⟩, ?_⟩
        refine callK_intro (by simp only [zW, zX, zD, builtinA, isLeaf, const1, Nat.reduceAdd, Nat.reduceMul, Nat.reduceSub, Nat.reduceLT, Nat.reduceLeDiff, Nat.reduceEqDiff, Nat.reduceBEq, Nat.reduceBNe, reduceIte, reduceCtorEq, Int.reduceToNat, Int.reduceLT, Int.reduceLE, Int.reduceEq, Int.reduceNe, Int.reduceNeg, ustrA]; rfl) (laws_markText (k1 + 1) (by omega) _) ?_ rfl; rintro v A' ⟨rfl, rfl⟩
        simp only [zW, zX, zD, builtinA, isLeaf, const1, Nat.reduceAdd, Nat.reduceMul, Nat.reduceSub, Nat.reduceLT, Nat.reduceLeDiff, Nat.reduceEqDiff, Nat.reduceBEq, Nat.reduceBNe, reduceIte, reduceCtorEq, Int.reduceToNat, Int.reduceLT, Int.reduceLE, Int.reduceEq, Int.reduceNe, Int.reduceNeg, ustrA, ti3, ti9, ti43, ti45, ca58, ca59, cf, Tryz.results59, hb', hg, hst, hgs, List.set_set, w2]
        refine ⟨⟨by omega, hpi⟩, ⟨hpl, by simp [isElem, isLeaf]⟩, ?_⟩
        refine callK_intro (by simp only [zW, zX, zD, builtinA, isLeaf, const1, Nat.reduceAdd, Nat.reduceMul, Nat.reduceSub, Nat.reduceLT, Nat.reduceLeDiff, Nat.reduceEqDiff, Nat.reduceBEq, Nat.reduceBNe, reduceIte, reduceCtorEq, Int.reduceToNat, Int.reduceLT, Int.reduceLE, Int.reduceEq, Int.reduceNe, Int.reduceNeg, ustrA]; rfl) (laws_markText (k1 + 2) (by omega) _) ?_ rfl; rintro v A' ⟨rfl, rfl⟩
        simp only [zW, zX, zD, builtinA, isLeaf, const1, Nat.reduceAdd, Nat.reduceMul, Nat.reduceSub, Nat.reduceLT, Nat.reduceLeDiff, Nat.reduceEqDiff, Nat.reduceBEq, Nat.reduceBNe, reduceIte, reduceCtorEq, Int.reduceToNat, Int.reduceLT, Int.reduceLE, Int.reduceEq, Int.reduceNe, Int.reduceNeg, ustrA, ti3, ti9, ti43, ti45, ca58, ca59, cf, Tryz.results59, hb', hg, hst, hgs, List.set_set, w3]
        refine ⟨⟨by omega, hpi⟩, ⟨hpl, by simp [isElem, isLeaf]⟩, ⟨by omega, hpi⟩, ?_⟩
        have hiS1 : i ∉ S1 := fun h => hne (by rw [hS]; simp [h])
        have hm := ih _ hmem
        rw [ht] at hm
        refine callO_intro (hm _ vk S1 (k1 + 3) (hK.frame fun j hj => by rw [getD_set_ne' (fun e => hiS1 (by rw [e]; exact hj))]) ((List.nodup_append.1 (List.nodup_append.1 hnd).2.1).1) (by omega) b1) ?_
        rintro r A3 ⟨rfl, hl3, hK3, hf3⟩
        simp only [zW, zX, zD, builtinA, isLeaf, const1, Nat.reduceAdd, Nat.reduceMul, Nat.reduceSub, Nat.reduceLT, Nat.reduceLeDiff, Nat.reduceEqDiff, Nat.reduceBEq, Nat.reduceBNe, reduceIte, reduceCtorEq, Int.reduceToNat, Int.reduceLT, Int.reduceLE, Int.reduceEq, Int.reduceNe, Int.reduceNeg, ustrA, ti3, ti9, ti43, ti45, ca58, ca59, cf, Tryz.results59, hi1, LoopK_eq]
        have hms := markL_snoc hp2 k
        rw [ht, hk1, markT] at hms
        have hd1 := (List.nodup_append.1 hnd).2.2
        have hd2 := (List.nodup_append.1 (List.nodup_append.1 hnd).2.1).2.2
        have fL : ∀ j ∈ SL, A3.getD j .dead = A'.getD j .dead := fun j hj => by
          rw [hf3 j (fun h => hd1 j hj j (by simp [h]) rfl), getD_set_ne' (fun e => hne (by rw [hS, e]; simp [hj]))]
        have fR : ∀ j ∈ S2, A3.getD j .dead = A'.getD j .dead := fun j hj => by
          rw [hf3 j (fun h => hd2 j h j hj rfl), getD_set_ne' (fun e => hne (by rw [hS, e]; simp [hj]))]
        refine ⟨⟨p + 1, rl ++ [[.int .i64 k1, .str (mtx (k1 + 1)), .str (mtx (k1 + 2)), vk]], rr', SL ++ S1, S2, by omega, ?_, ?_, ?_, ?_, ?_, hR'.frame fR, by rw [hS]; simp, fun j hj => ?_⟩, ?_⟩
        · rw [hms]; rfl
        · rw [hl3]; simpa using hl
        · rw [hf3 i hiS1, getD_set_self hil']; simp
        · simp [hrl]
        · rw [hms]
          refine (hL.frame fL).append ?_
          rw [OwnR]
          refine ⟨_, _, S1, [], rfl, by simp, ?_, by simp [OwnR]⟩
          rw [ownT_mk]
          exact ⟨vk, rfl, hK3⟩
        · have hj1 : j ≠ i := fun e => hj (by simp [e])
          have hj2 : j ∉ S1 := fun h => hj (by rw [hS]; simp [h])
          rw [hf3 j hj2, getD_set_ne' (Ne.symm hj1)]
          exact hfr j hj
        · simp only [intOf]; omega
      · have hp2 : p = ks.length := by simp at h2; omega
        subst hp2
        simp only [zW, zX, zD, builtinA, isLeaf, const1, Nat.reduceAdd, Nat.reduceMul, Nat.reduceSub, Nat.reduceLT, Nat.reduceLeDiff, Nat.reduceEqDiff, Nat.reduceBEq, Nat.reduceBNe, reduceIte, reduceCtorEq, Int.reduceToNat, Int.reduceLT, Int.reduceLE, Int.reduceEq, Int.reduceNe, Int.reduceNeg, ustrA, ti3, ti9, ti43, ti45, ca58, ca59, cf, Tryz.results59]
        rw [List.take_length] at hL
        rw [List.drop_length, OwnR] at hRr
        obtain ⟨rfl, rfl⟩ := hRr
        simp only [List.append_nil] at hb' hS
        exact ⟨hl, .inr (.inr ⟨i, rl, S', rfl, rfl, hb', by rw [hS]; exact hL⟩), hfr⟩

theorem markS : ∀ (t : Ty), t.Ok → MarkS t.kids := by
  intro t
  induction t using Ty.ind with
  | h k m n ks ih =>
    intro hO
    obtain ⟨_, _, h3, h4⟩ := hO
    exact laws_markTypeS ks h3 fun t ht => ih t ht (h4 t ht)


def HeldS (ks : List Ty) : Prop := ∀ (A : List Box) (k : Int), 0 ≤ k → k + 3 * counts ks ≤ 2 ^ 50 →
  ACalls Tryz.prog 60 [.slice (encs (markL ks k).1), .int .i64 k] A (fun r A' => r = .int .i64 (markL ks k).2 ∧ A' = A)

set_option maxRecDepth 100000 in
theorem laws_heldTypeS (ks : List Ty) (hks : ks.length < 2 ^ 63) (ih : ∀ t ∈ ks, HeldS t.kids) : HeldS ks := by
  intro A k h0 h1
  have hlen : (encs (markL ks k).1).length = ks.length := by rw [encs_length, markL_length]
  refine acalls_enter (cf := cf 51 [0, 1, 4, 5, 9, 18, 28, 38, 49]) foll Tryz.func60 Tryz.ntmps60 (by simp [cf]) ?_
  simp only [Tryz.f60, EnterK_some, zW, zX, zD, builtinA, isLeaf, const1, Nat.reduceAdd, Nat.reduceMul, Nat.reduceSub, Nat.reduceLT, Nat.reduceLeDiff, Nat.reduceEqDiff, Nat.reduceBEq, Nat.reduceBNe, reduceIte, reduceCtorEq, Int.reduceToNat, Int.reduceLT, Int.reduceLE, Int.reduceEq, Int.reduceNe, Int.reduceNeg, ustrA, ti3, ti9, ti43, ti45, ca58, ca60, cf, Tryz.results60]
  refine aloop_intro [0, 1, 5] (fun e A' => ∃ (p : Nat), p ≤ ks.length ∧ e = [(0, .slice (encs (markL ks k).1)), (1, .int .i64 (markL (ks.take p) k).2), (5, .int .i64 p)] ∧ A' = A) (fun e _ => ks.length - (intOf (Abs.look 5 e)).toNat) ?_ ?_
  · refine ⟨0, by omega, ?_, rfl⟩
    simp only [zW, zX, zD, builtinA, isLeaf, const1, Nat.reduceAdd, Nat.reduceMul, Nat.reduceSub, Nat.reduceLT, Nat.reduceLeDiff, Nat.reduceEqDiff, Nat.reduceBEq, Nat.reduceBNe, reduceIte, reduceCtorEq, Int.reduceToNat, Int.reduceLT, Int.reduceLE, Int.reduceEq, Int.reduceNe, Int.reduceNeg, ustrA, ti3, ti9, ti43, ti45, ca58, ca60, cf, Tryz.results60]
    simp [markL]
  · rintro e A' ⟨p, hp, rfl, rfl⟩
    simp only [zW, zX, zD, builtinA, isLeaf, const1, Nat.reduceAdd, Nat.reduceMul, Nat.reduceSub, Nat.reduceLT, Nat.reduceLeDiff, Nat.reduceEqDiff, Nat.reduceBEq, Nat.reduceBNe, reduceIte, reduceCtorEq, Int.reduceToNat, Int.reduceLT, Int.reduceLE, Int.reduceEq, Int.reduceNe, Int.reduceNeg, ustrA, ti3, ti9, ti43, ti45, ca58, ca60, cf, Tryz.results60, hlen]
    refine condK_intro (fun h2 => ?_) (fun h2 => ?_)
    · have hp2 : p < ks.length := by simpa using h2
      have hmem := getD_mem hp2
      have hmk := markL_next (ks.take p) k
      have hct := counts_take hp2
      have hcl := counts_le ks (p + 1)
      have hel := encs_getD (l := (markL ks k).1) (i := p) (by rw [markL_length]; exact hp2)
      have hms := markL_snoc hp2 k
      rw [markL_getD hp2] at hel
      obtain ⟨kk, m, n, kks, ht⟩ : ∃ kk m n kks, ks.getD p ty0 = .mk kk m n kks := by cases ks.getD p ty0; exact ⟨_, _, _, _, rfl⟩
      have hm := ih _ hmem
      rw [ht] at hct hel hms hm
      simp only [count] at hct
      generalize hk1 : (markL (ks.take p) k).2 = k1 at *
      simp only [markT, Ty.kids] at hel hms hm
      rw [enc4] at hel
      have b0 : 0 ≤ k1 := by omega
      have b1 : k1 + 3 + 3 * counts kks ≤ 2 ^ 50 := by omega
      have hmn := markL_next kks (k1 + 3)
      have w1 : IntKind.i64.wrap (k1 + 1) = k1 + 1 := wrap64 (by omega) (by omega)
      have w2 : IntKind.i64.wrap (k1 + 1 + 1) = k1 + 2 := by rw [wrap64 (by omega) (by omega)]; omega
      have w3 : IntKind.i64.wrap (k1 + 2 + 1) = k1 + 3 := by rw [wrap64 (by omega) (by omega)]; omega
      have hi1 : IntKind.i64.wrap ((p : Int) + 1) = ((p + 1 : Nat) : Int) := by rw [wrap64 (by omega) (by omega)]; rfl
      have hpi : (p : Int) < (ks.length : Int) := by omega
      have d0 : ∀ x : Int, decide (¬ x = x) = false := fun x => by simp
      have d1 : ∀ x : List UInt8, decide (¬ x = x) = false := fun x => by simp
      simp only [zW, zX, zD, builtinA, isLeaf, const1, Nat.reduceAdd, Nat.reduceMul, Nat.reduceSub, Nat.reduceLT, Nat.reduceLeDiff, Nat.reduceEqDiff, Nat.reduceBEq, Nat.reduceBNe, reduceIte, reduceCtorEq, Int.reduceToNat, Int.reduceLT, Int.reduceLE, Int.reduceEq, Int.reduceNe, Int.reduceNeg, ustrA, ti3, ti9, ti43, ti45, ca58, ca60, cf, Tryz.results60, hel, hlen, w1, w2, w3]
      refine ⟨⟨by omega, hpi⟩, .inl ⟨by kernel_rfl, by kernel_rfl, ⟨by omega, hpi⟩, ?_⟩⟩
      refine callD_intro (by simp only [zW, zX, zD, builtinA, isLeaf, const1, Nat.reduceAdd, Nat.reduceMul, Nat.reduceSub, Nat.reduceLT, Nat.reduceLeDiff, Nat.reduceEqDiff, Nat.reduceBEq, Nat.reduceBNe, reduceIte, reduceCtorEq, Int.reduceToNat, Int.reduceLT, Int.reduceLE, Int.reduceEq, Int.reduceNe, Int.reduceNeg, ustrA, Option.map_some] <;> rfl) (laws_markText (k1 + 1) (by omega) _) ?_ rfl
      simp only [zW, zX, zD, builtinA, isLeaf, const1, Nat.reduceAdd, Nat.reduceMul, Nat.reduceSub, Nat.reduceLT, Nat.reduceLeDiff, Nat.reduceEqDiff, Nat.reduceBEq, Nat.reduceBNe, reduceIte, reduceCtorEq, Int.reduceToNat, Int.reduceLT, Int.reduceLE, Int.reduceEq, Int.reduceNe, Int.reduceNeg, ustrA, ti3, ti9, ti43, ti45, ca58, ca60, cf, Tryz.results60, hel, hlen, w1, w2, w3]
      refine .inl ⟨by kernel_rfl, by kernel_rfl, ⟨by omega, hpi⟩, ?_⟩
      refine callD_intro (by simp only [zW, zX, zD, builtinA, isLeaf, const1, Nat.reduceAdd, Nat.reduceMul, Nat.reduceSub, Nat.reduceLT, Nat.reduceLeDiff, Nat.reduceEqDiff, Nat.reduceBEq, Nat.reduceBNe, reduceIte, reduceCtorEq, Int.reduceToNat, Int.reduceLT, Int.reduceLE, Int.reduceEq, Int.reduceNe, Int.reduceNeg, ustrA, Option.map_some] <;> rfl) (laws_markText (k1 + 2) (by omega) _) ?_ rfl
      simp only [zW, zX, zD, builtinA, isLeaf, const1, Nat.reduceAdd, Nat.reduceMul, Nat.reduceSub, Nat.reduceLT, Nat.reduceLeDiff, Nat.reduceEqDiff, Nat.reduceBEq, Nat.reduceBNe, reduceIte, reduceCtorEq, Int.reduceToNat, Int.reduceLT, Int.reduceLE, Int.reduceEq, Int.reduceNe, Int.reduceNeg, ustrA, ti3, ti9, ti43, ti45, ca58, ca60, cf, Tryz.results60, hel, hlen, w1, w2, w3]
      refine ⟨⟨by omega, hpi⟩, ?_⟩
      refine callK_intro (by simp only [zW, zX, zD, builtinA, isLeaf, const1, Nat.reduceAdd, Nat.reduceMul, Nat.reduceSub, Nat.reduceLT, Nat.reduceLeDiff, Nat.reduceEqDiff, Nat.reduceBEq, Nat.reduceBNe, reduceIte, reduceCtorEq, Int.reduceToNat, Int.reduceLT, Int.reduceLE, Int.reduceEq, Int.reduceNe, Int.reduceNeg, ustrA, Option.map_some]; rfl) (hm _ (k1 + 3) (by omega) b1) ?_ rfl; rintro v A' ⟨rfl, rfl⟩
      have hge : decide ((markL kks (k1 + 3)).2 < 0) = false := by rw [hmn]; exact decide_eq_false (by omega)
      simp only [zW, zX, zD, builtinA, isLeaf, const1, Nat.reduceAdd, Nat.reduceMul, Nat.reduceSub, Nat.reduceLT, Nat.reduceLeDiff, Nat.reduceEqDiff, Nat.reduceBEq, Nat.reduceBNe, reduceIte, reduceCtorEq, Int.reduceToNat, Int.reduceLT, Int.reduceLE, Int.reduceEq, Int.reduceNe, Int.reduceNeg, ustrA, ti3, ti9, ti43, ti45, ca58, ca60, cf, Tryz.results60, hge, hi1, LoopK_eq]
      refine ⟨⟨p + 1, by omega, ?_⟩, ?_⟩
      · rw [hms]
      · simp only [intOf]; omega
    · have hp2 : p = ks.length := by simp at h2; omega
      subst hp2
      simp only [zW, zX, zD, builtinA, isLeaf, const1, Nat.reduceAdd, Nat.reduceMul, Nat.reduceSub, Nat.reduceLT, Nat.reduceLeDiff, Nat.reduceEqDiff, Nat.reduceBEq, Nat.reduceBNe, reduceIte, reduceCtorEq, Int.reduceToNat, Int.reduceLT, Int.reduceLE, Int.reduceEq, Int.reduceNe, Int.reduceNeg, ustrA, ti3, ti9, ti43, ti45, ca58, ca60, cf, Tryz.results60, List.take_length]

theorem heldS : ∀ (t : Ty), t.Ok → HeldS t.kids := by
  intro t
  induction t using Ty.ind with
  | h k m n ks ih =>
    intro hO
    obtain ⟨_, _, h3, h4⟩ := hO
    exact laws_heldTypeS ks h3 fun t ht => ih t ht (h4 t ht)


/-! ### reading what is owned -/
theorem borrow0 {P : Program} {f : FuncId} {args args' : List AV} {A : List Box} {x : AV} (hv : Views A args args') (hx : ifree x = true) (h : ∀ A, ACalls P f args' A (fun v A' => v = x ∧ A' = A)) : ACalls P f args A (fun v A' => v = x ∧ A' = A) :=
  ACalls.borrow hv ((h _).mono fun v A' ⟨h1, h2⟩ => ⟨[], by rw [h2, List.append_nil], by rw [h1]; exact hx, by simp, h1, by simp⟩)
end Go.Proofs.YtkajklfohjcofaaGreatDoor

/- A law's argument, a type, as memory of its own. -/
set_option linter.unusedVariables false
set_option linter.unusedSimpArgs false
namespace Go.Proofs.YtkajklfohjcofaaGreatDoor
open Go.Abs

theorem getD_repl {α : Type} {n i : Nat} {x d : α} (h : i < n) : (List.replicate n x).getD i d = x := by simp [List.getD, h]
/-- new memory that holds a list of types -/
def NewK (A : List Box) (ks : List Ty) (j : Nat) (A' : List Box) : Prop :=
  A.length ≤ A'.length ∧ (∀ k, k < A.length → A'.getD k .dead = A.getD k .dead) ∧ ∃ rows S, A'.getD j .dead = .gr none 4 rows ∧ OwnR A' ks rows S ∧ (j :: S).Nodup ∧ ∀ i ∈ j :: S, A.length ≤ i
def KidsN (ks : List Ty) : Prop := ∀ A, ACalls Tryz.prog 111 [.aslice (encAs ks)] A (fun r A' => ∃ j, r = .own j ∧ NewK A ks j A')
def TypN (t : Ty) : Prop := ∀ A, ACalls Tryz.prog 78 [.agg (encA t)] A (fun r A' => ∃ j, r = .agg [.int .i64 t.kind, .str t.mod, .str t.name, .own j] ∧ NewK A t.kids j A')

set_option maxRecDepth 100000 in
theorem toTypeS_own (ks : List Ty) (hl : ks.length ≤ 1048576) (hk : ∀ t ∈ ks, TypN t) : KidsN ks := fun A => by
  have hl2 : ((encAs ks).length : Int) ≤ 1048576 := by rw [encAs_length]; omega
  refine ACalls.grow ?_
  refine acalls_enterK (cf := cf 23 [0, 2, 3, 4, 11]) foll Tryz.func111 Tryz.ntmps111 (by simp [cf]) ?_
  simp only [Tryz.f111, EnterK_some, zW, zX, zD, builtinA, isLeaf, const1, ustrA, simprocAttr, ti3, ti43, ti45, ti55, ti57, ca78, cf, Tryz.results111]
  refine ⟨⟨by omega, by omega, by omega⟩, ?_⟩
  refine aloop_intro [0, 3, 4] (fun e A' => ∃ (p : Nat) (rl : List (List AV)) (SL : List Nat), p ≤ ks.length ∧ e = [(0, .aslice (encAs ks)), (3, .own A.length), (4, .int .i64 p)] ∧ A'.getD A.length .dead = (if p = 0 then .row 4 (List.replicate ks.length zty) 0 else .gr none 4 (rl ++ List.replicate (ks.length - p) zty)) ∧
    rl.length = p ∧ OwnR A' (ks.take p) rl SL ∧ SL.Nodup ∧ (∀ i ∈ SL, A.length < i) ∧ A.length < A'.length ∧ ∀ k, k < A.length → A'.getD k .dead = A.getD k .dead) (fun e _ => ks.length - (intOf (Abs.look 4 e)).toNat) ?_ ?_
  · simp only [zW, zX, zD, builtinA, isLeaf, const1, ustrA, simprocAttr, ti3, ti43, ti45, ti55, ti57, ca78, cf, Tryz.results111]
    refine ⟨0, [], [], by omega, rfl, ?_, rfl, by simp [OwnR], by simp, by simp, by simp, fun k hk => Abs.getD_append_left hk⟩
    rw [if_pos rfl, encAs_length]
    rfl
  · rintro e A' ⟨p, rl, SL, hp, rfl, hb, hrl, hO, hN, hlo, hlt, hfr⟩
    simp only [zW, zX, zD, builtinA, isLeaf, const1, ustrA, simprocAttr, ti3, ti43, ti45, ti55, ti57, ca78, cf, Tryz.results111, encAs_length]
    refine condK_intro (fun h2 => ?_) (fun h2 => ?_)
    · have hp2 : p < ks.length := by simpa using h2
      have he := encAs_getD hp2
      have hm := getD_mem hp2
      simp only [zW, zX, zD, builtinA, isLeaf, const1, ustrA, simprocAttr, ti3, ti43, ti45, ti55, ti57, ca78, cf, Tryz.results111, he, encA_length, encA_take, encAs_length]
      refine ⟨⟨by omega, by omega⟩, ?_⟩
      refine callK_intro (by simp only [zW, zX, zD, builtinA, isLeaf, const1, ustrA, simprocAttr, frzL_encA, Option.map_some] <;> rfl) (hk _ hm _) ?_ rfl
      rintro r A3 ⟨j, rfl, hle, hf3, rows, S, hg, hR, hND, hge⟩
      have hi1 : IntKind.i64.wrap ((p : Int) + 1) = ((p + 1 : Nat) : Int) := by rw [wrap64 (by omega) (by omega)]; rfl
      have hb3 : A3.getD A.length .dead = (if p = 0 then .row 4 (List.replicate ks.length zty) 0 else .gr none 4 (rl ++ List.replicate (ks.length - p) zty)) := by rw [hf3 _ hlt]; exact hb
      have hjA : A.length ≠ j := fun e => by have := hge j (by simp); omega
      generalize ht : ks.getD p ty0 = t at *
      have key : ∀ (n0 : Nat) (z : List (List AV)), n0 = ks.length → z.length = ks.length → z.take p = rl → z.drop p = List.replicate (ks.length - p) zty → z.set p ([.int .i64 t.kind, .str t.mod, .str t.name, .own j]) = (rl ++ [[.int .i64 t.kind, .str t.mod, .str t.name, .own j]]) ++ List.replicate (ks.length - (p + 1)) zty := fun n0 z h0 h1 h2 h3 => by
        have e1 : z = rl ++ List.replicate (ks.length - p) zty := by rw [← h2, ← h3, List.take_append_drop]
        rw [e1, show ks.length - p = (ks.length - (p + 1)) + 1 by omega, List.replicate_succ, List.set_append_right _ _ (by omega), hrl, Nat.sub_self]
        simp
      have fin : ∀ Z, Z = Box.gr none 4 ((rl ++ [[.int .i64 t.kind, .str t.mod, .str t.name, .own j]]) ++ List.replicate (ks.length - (p + 1)) zty) → ∃ (p' : Nat) (rl' : List (List AV)) (SL' : List Nat), p' ≤ ks.length ∧ [(0, AV.aslice (encAs ks)), (3, .own A.length), (4, .int .i64 ((p + 1 : Nat) : Int))] = [(0, .aslice (encAs ks)), (3, .own A.length), (4, .int .i64 p')] ∧ (A3.set A.length Z).getD A.length .dead = (if p' = 0 then .row 4 (List.replicate ks.length zty) 0 else .gr none 4 (rl' ++ List.replicate (ks.length - p') zty)) ∧
          rl'.length = p' ∧ OwnR (A3.set A.length Z) (ks.take p') rl' SL' ∧ SL'.Nodup ∧ (∀ i ∈ SL', A.length < i) ∧ A.length < (A3.set A.length Z).length ∧ ∀ k, k < A.length → (A3.set A.length Z).getD k .dead = A.getD k .dead := fun Z hZ => by
        have hlt3 : A.length < A3.length := by omega
        have low := hO.low
        refine ⟨p + 1, rl ++ [[.int .i64 t.kind, .str t.mod, .str t.name, .own j]], SL ++ (j :: S), by omega, rfl, ?_, by simp [hrl], ?_, ?_, ?_, by simpa using hlt3, fun k hk => ?_⟩
        · rw [getD_set_self hlt3, if_neg (by omega)]; exact hZ
        · have hts : ks.take (p + 1) = ks.take p ++ [t] := by rw [← ht]; exact take_snoc ty0 hp2
          rw [hts]
          refine (hO.frame fun i hi => ?_).append ?_
          · have h1 := hlo i hi
            have h2 := low i hi
            rw [getD_set_ne' (by omega), hf3 i h2]
          · rw [OwnR]
            refine ⟨_, [], j :: S, [], rfl, by simp, ?_, by simp [OwnR]⟩
            have ht4 : t = .mk t.kind t.mod t.name t.kids := by cases t; rfl
            rw [ht4, ownT_mk]
            refine ⟨.own j, rfl, .inr (.inr ⟨j, rows, S, rfl, rfl, by rw [getD_set_ne' hjA]; exact hg, hR.frame fun i hi => ?_⟩)⟩
            have := hge i (by simp [hi])
            rw [getD_set_ne' (by omega)]
        · refine List.nodup_append.2 ⟨hN, hND, fun x hx y hy => ?_⟩
          have := low x hx
          have := hge y hy
          omega
        · intro i hi
          rcases List.mem_append.1 hi with hi | hi
          · exact hlo i hi
          · have := hge i hi; omega
        · rw [getD_set_ne' (by omega), hf3 k (by omega), hfr k hk]
      have hel : ∀ v ∈ [AV.int .i64 t.kind, .str t.mod, .str t.name, .own j], isElem v = true := by simp [isElem, isLeaf]
      by_cases hp0 : p = 0
      · rw [if_pos hp0] at hb3
        have hz := key ks.length (List.replicate ks.length zty) rfl (by simp) (by subst hp0; simp at hrl; simp [hrl]) (by subst hp0; simp)
        have hdz : List.drop 4 ((List.replicate ks.length zty).getD p []) = [] := by rw [getD_repl hp2]; rfl
        simp only [zW, zX, zD, builtinA, isLeaf, const1, ustrA, simprocAttr, ti3, ti43, ti45, ti55, ti57, ca78, cf, Tryz.results111, hg, hb3, hz, hdz, hi1, LoopK_eq]
        refine ⟨⟨by omega, by simp; omega⟩, ⟨by simp; omega, hel⟩, by simpa only [List.append_assoc, List.cons_append, List.nil_append, List.length_set] using fin _ rfl, ?_⟩
        simp only [intOf]; omega
      · rw [if_neg hp0] at hb3
        have hz := key ks.length (rl ++ List.replicate (ks.length - p) zty) rfl (by simp; omega) (by rw [← hrl]; simp) (by rw [← hrl]; simp)
        have hdz : List.drop 4 ((rl ++ List.replicate (ks.length - p) zty).getD p []) = [] := by
          rw [Abs.getD_append_right (by omega), hrl, Nat.sub_self, getD_repl (by omega)]; rfl
        simp only [zW, zX, zD, builtinA, isLeaf, const1, ustrA, simprocAttr, ti3, ti43, ti45, ti55, ti57, ca78, cf, Tryz.results111, hg, hb3, hz, hdz, hi1, LoopK_eq]
        refine ⟨⟨by omega, by simp; omega⟩, ⟨by simp; omega, hel⟩, by simpa only [List.append_assoc, List.cons_append, List.nil_append, List.length_set] using fin _ rfl, ?_⟩
        simp only [intOf]; omega
    · have hp2 : p = ks.length := by simp at h2; omega
      subst hp2
      simp only [zW, zX, zD, builtinA, isLeaf, const1, ustrA, simprocAttr, ti3, ti43, ti45, ti55, ti57, ca78, cf, Tryz.results111]
      rw [List.take_length] at hO
      have low := hO.low
      have hnd : (A.length :: SL).Nodup := List.nodup_cons.2 ⟨fun h => by have := hlo _ h; omega, hN⟩
      have hge : ∀ i ∈ A.length :: SL, A.length ≤ i := fun i hi => by
        rcases List.mem_cons.1 hi with rfl | hi
        · exact Nat.le_refl _
        · have := hlo i hi; omega
      by_cases h0 : ks.length = 0
      · have hk0 : ks = [] := List.length_eq_zero_iff.1 h0
        rw [if_pos h0, h0] at hb
        refine .inr ⟨A.length, 4, [], by rw [hb]; rfl, A.length, rfl, by simp; omega, fun k hk => by rw [getD_set_ne' (by omega)]; exact hfr k hk, [], [], getD_set_self hlt, by rw [hk0]; simp [OwnR], by simp, by simp⟩
      · rw [if_neg h0] at hb
        refine .inl ⟨A.length, rfl, by omega, hfr, rl, SL, by rw [hb]; simp, hO, hnd, hge⟩

set_option maxRecDepth 100000 in
theorem toType_own (τ : Ty) (hτ : sz τ ≤ 1048576) : TypN τ := by
  induction τ using Ty.ind with
  | h k m n ks ih =>
    intro A
    rw [encA]
    have h1 : ks.length ≤ 1048576 := by rw [sz] at hτ; omega
    have h2 : ∀ t ∈ ks, sz t ≤ 1048576 := fun t ht => by rw [sz] at hτ; have := szs_mem ht; omega
    have hks := toTypeS_own ks h1 (fun t ht => ih t ht (h2 t ht))
    refine acalls_enterK (cf := cf 18 [0, 1, 2, 3]) foll Tryz.func78 Tryz.ntmps78 (by simp [cf]) ?_
    simp only [Tryz.f78, EnterK_some, zW, zX, zD, builtinA, isLeaf, const1, ustrA, simprocAttr, ti3, ti9, ti43, ti45, ti55, ti57, ca111, cf, Tryz.results78]
    refine callK_intro (by simp only [zW, zX, zD, builtinA, isLeaf, const1, ustrA, simprocAttr, Option.map_some] <;> rfl) (hks _) ?_ rfl
    rintro r A' ⟨j, rfl, hle, hf, rows, S, hg, hR, hND, hge⟩
    simp only [List.length_append, List.length_cons, List.length_nil] at hle hf hge
    have gb : ∀ i b, ([Box.cells [.int .i64 k, .str m, .str n, .aslice (encAs ks)], .cells [.int .i64 0, .str [], .str [], .nils], .cells [.int .i64 k, .str m, .str n, .nils]] : List Box).getD i .dead = b → i < 3 → A'.getD (A.length + i) .dead = b := fun i b h hi => by
      rw [hf _ (by omega), Abs.getD_append_right (by omega), show A.length + i - A.length = i by omega]; exact h
    have g1 := gb 1 _ rfl (by omega)
    have g2 := gb 2 _ rfl (by omega)
    have hl1 : A.length + 1 < A'.length := by omega
    have hl2 : A.length + 2 < A'.length := by omega
    have s1 : ∀ X : Box, (A'.set (A.length + 2) X).getD (A.length + 2) .dead = X := fun X => getD_set_self hl2
    have s2 : ∀ X : Box, (A'.set (A.length + 2) X).getD (A.length + 1) .dead = .cells [.int .i64 0, .str [], .str [], .nils] := fun X => by rw [getD_set_ne' (by omega)]; exact g1
    have s3 : ∀ X Y : Box, ((A'.set (A.length + 2) X).set (A.length + 1) Y).getD (A.length + 1) .dead = Y := fun X Y => getD_set_self (by simpa using hl1)
    have fin : ∀ X Y : Box, NewK A ks j ((A'.set (A.length + 2) X).set (A.length + 1) Y) := fun X Y => by
      refine ⟨by simp; omega, fun i hi => ?_, rows, S, ?_, hR.frame fun i hi => ?_, hND, fun i hi => by have := hge i hi; omega⟩
      · rw [getD_set_ne' (by omega), getD_set_ne' (by omega), hf i (by omega), Abs.getD_append_left hi]
      · have := hge j (by simp)
        rw [getD_set_ne' (by omega), getD_set_ne' (by omega)]; exact hg
      · have := hge i (by simp [hi])
        rw [getD_set_ne' (by omega), getD_set_ne' (by omega)]
    simp only [zW, zX, zD, builtinA, isLeaf, const1, ustrA, simprocAttr, ti3, ti9, ti43, ti45, ti55, ti57, ca111, cf, Tryz.results78, g1, g2, s1, s2, s3]
    exact ⟨j, rfl, fin _ _⟩
end Go.Proofs.YtkajklfohjcofaaGreatDoor

/- Lists of bindings as memory of their own. -/
set_option linter.unusedVariables false
set_option linter.unusedSimpArgs false
namespace Go.Proofs.YtkajklfohjcofaaGreatDoor
open Go.Abs

def bRow (b : BdI) (v : AV) : List AV := [.str b.mod, .str b.name, .int .i64 b.typ.kind, .str b.typ.mod, .str b.typ.name, v]
def OwnB (A : List Box) : List BdI → List (List AV) → List Nat → Prop
  | [], rows, S => rows = [] ∧ S = []
  | b :: bs, rows, S => ∃ v rows' S1 S2, rows = bRow b v :: rows' ∧ S = S1 ++ S2 ∧ OwnK A b.typ.kids v S1 ∧ OwnB A bs rows' S2
theorem OwnB.frame {A A' : List Box} : ∀ {bs : List BdI} {rows : List (List AV)} {S : List Nat}, OwnB A bs rows S → (∀ i ∈ S, A'.getD i .dead = A.getD i .dead) → OwnB A' bs rows S
  | [], rows, S, h, hf => h
  | b :: bs, rows, S, h, hf => by
    rw [OwnB] at h ⊢
    obtain ⟨v, rows', S1, S2, h1, rfl, h3, h4⟩ := h
    exact ⟨v, rows', S1, S2, h1, rfl, h3.frame fun j hj => hf j (by simp [hj]), OwnB.frame h4 fun j hj => hf j (by simp [hj])⟩
theorem OwnB.length {A : List Box} : ∀ {bs : List BdI} {rows : List (List AV)} {S : List Nat}, OwnB A bs rows S → rows.length = bs.length
  | [], rows, S, h => by rw [OwnB] at h; rw [h.1]; rfl
  | b :: bs, rows, S, h => by
    rw [OwnB] at h
    obtain ⟨v, rows', S1, S2, rfl, h2, h3, h4⟩ := h
    simp [OwnB.length h4]
theorem OwnB.low {A : List Box} : ∀ {bs : List BdI} {rows : List (List AV)} {S : List Nat}, OwnB A bs rows S → ∀ i ∈ S, i < A.length
  | [], rows, S, h => by rw [OwnB] at h; rw [h.2]; simp
  | b :: bs, rows, S, h => by
    rw [OwnB] at h
    obtain ⟨v, rows', S1, S2, h1, rfl, h3, h4⟩ := h
    intro j hj
    rcases List.mem_append.1 hj with hj | hj
    · exact h3.low j hj
    · exact OwnB.low h4 j hj
theorem OwnB.append {A : List Box} : ∀ {k1 k2 : List BdI} {r1 r2 : List (List AV)} {S1 S2 : List Nat}, OwnB A k1 r1 S1 → OwnB A k2 r2 S2 → OwnB A (k1 ++ k2) (r1 ++ r2) (S1 ++ S2)
  | [], k2, r1, r2, S1, S2, h1, h2 => by
    rw [OwnB] at h1
    rw [h1.1, h1.2]; exact h2
  | t :: k1, k2, r1, r2, S1, S2, h1, h2 => by
    rw [OwnB] at h1
    obtain ⟨v, r', T1, T2, rfl, rfl, h3, h4⟩ := h1
    rw [List.cons_append, OwnB]
    exact ⟨v, r' ++ r2, T1, T2 ++ S2, by simp, by simp, h3, OwnB.append h4 h2⟩
theorem OwnB.view {A : List Box} : ∀ {bs : List BdI} {rows : List (List AV)} {S : List Nat}, OwnB A bs rows S → ∀ k, k < rows.length → ∀ j, j < 6 → View A ((rows.getD k []).getD j .bot) ((bE (bs.getD k bd0)).getD j .bot)
  | [], rows, S, h => by rw [OwnB] at h; rw [h.1]; intro k hk; simp at hk
  | b :: bs, rows, S, h => by
    rw [OwnB] at h
    obtain ⟨v, rows', S1, S2, rfl, h2, h3, h4⟩ := h
    intro k hk j hj
    cases k with
    | zero =>
      have hv := h3.view
      match j, hj with
      | 0, _ => exact .leaf _ rfl
      | 1, _ => exact .leaf _ rfl
      | 2, _ => exact .leaf _ rfl
      | 3, _ => exact .leaf _ rfl
      | 4, _ => exact .leaf _ rfl
      | 5, _ => exact hv
    | succ k =>
      have := OwnB.view h4 k (by simpa using hk) j hj
      simpa using this
end Go.Proofs.YtkajklfohjcofaaGreatDoor

/- What SubstType hands back, all other new memory forgotten; the same for a call with borrowed arguments. -/
set_option linter.unusedVariables false
set_option linter.unusedSimpArgs false
namespace Go.Proofs.YtkajklfohjcofaaGreatDoor
open Go.Abs

mutual
theorem OwnT.free {A : List Box} : ∀ {t : Ty} {r : List AV} {S : List Nat}, OwnT A t r S → ifrees r = true ∧ ∀ i ∈ S, ifreeB (A.getD i .dead) = true
  | .mk k m n ks, r, S, h => by
    rw [OwnT] at h
    obtain ⟨v, rfl, h⟩ := h
    rcases h with ⟨rfl, _, rfl⟩ | ⟨rfl, _, rfl⟩ | ⟨i, rows, S', rfl, rfl, h3, h4⟩
    · exact ⟨by simp [ifrees, ifree], by simp⟩
    · exact ⟨by simp [ifrees, ifree], by simp⟩
    · refine ⟨by simp [ifrees, ifree], fun j hj => ?_⟩
      have h5 := OwnR.free h4
      rcases List.mem_cons.1 hj with rfl | hj
      · rw [h3]; exact h5.1
      · exact h5.2 j hj
theorem OwnR.free {A : List Box} : ∀ {ks : List Ty} {rows : List (List AV)} {S : List Nat}, OwnR A ks rows S → rows.all ifrees = true ∧ ∀ i ∈ S, ifreeB (A.getD i .dead) = true
  | [], rows, S, h => by rw [OwnR] at h; rw [h.1, h.2]; exact ⟨rfl, by simp⟩
  | t :: ks, rows, S, h => by
    rw [OwnR] at h
    obtain ⟨r, rows', S1, S2, rfl, rfl, h3, h4⟩ := h
    have a := OwnT.free h3
    have b := OwnR.free h4
    refine ⟨by rw [List.all_cons, a.1, b.1]; rfl, fun j hj => ?_⟩
    rcases List.mem_append.1 hj with hj | hj
    · exact a.2 j hj
    · exact b.2 j hj
end

end Go.Proofs.YtkajklfohjcofaaGreatDoor
