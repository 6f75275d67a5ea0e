/- Marks in a list of items that is owned. -/
import Derived.Test.YtapkacochknndaaGreatOwnSi
import Derived.Test.YtapkacochknndaaGreatAbsW3
set_option linter.unusedVariables false
set_option linter.unusedSimpArgs false
namespace Go.Proofs.YtapkacochknndaaGreat
open Go.Abs

def totG : List SigI → Nat
  | [] => 0
  | b :: bs => 5 + 3 * counts b.typ.kids + totG bs
theorem totG_app : ∀ a b : List SigI, totG (a ++ b) = totG a + totG b
  | [], b => by simp [totG]
  | x :: a, b => by rw [List.cons_append, totG, totG, totG_app a b]; omega
theorem totG_take {bs : List SigI} {p : Nat} (h : p < bs.length) : totG (bs.take (p + 1)) = totG (bs.take p) + (5 + 3 * counts (bs.getD p si0).typ.kids) := by
  rw [si_take h, totG_app]; simp [totG]
theorem totG_le (bs : List SigI) (p : Nat) : totG (bs.take p) ≤ totG bs := by
  conv => rhs; rw [← List.take_append_drop p bs]
  rw [totG_app]; omega

theorem si_drop' {l : List SigI} {i : Nat} (h : i < l.length) : l.drop i = l.getD i si0 :: l.drop (i + 1) := by
  have : l.getD i si0 = l[i] := by simp [List.getD, h]
  rw [this, List.getElem_cons_drop h]

mutual
theorem count_le_szG : ∀ t : Ty, count t ≤ 1 + sz t
  | .mk k m n ks => by rw [count, sz]; have := counts_le_szG ks; omega
theorem counts_le_szG : ∀ l : List Ty, counts l ≤ l.length + szs l
  | [] => by simp [counts]
  | t :: l => by rw [counts, szs, List.length_cons]; have := count_le_szG t; have := counts_le_szG l; omega
end
theorem totG_sz : ∀ bs : List SigI, totG bs ≤ 5 * bs.length + 3 * szIs bs
  | [] => by simp [totG]
  | b :: bs => by
    have h := totG_sz bs
    have e : szIs (b :: bs) = szI b + szIs bs := by simp [szIs]
    have h2 := counts_le_szG b.typ.kids
    have h3 : b.typ.kids.length + szs b.typ.kids ≤ sz b.typ := by cases b.typ; rw [sz]; simp [Ty.kids]
    rw [totG, e, List.length_cons, szI]; omega

set_option maxRecDepth 100000 in
theorem laws_markSigItemS (ks : List SigI) (hks : ks.length < 2 ^ 63) (hok : ∀ b ∈ ks, b.Ok) (A : List Box) (i : Nat) (rows : List (List AV)) (S' : List Nat) (k : Int) (hb : A.getD i .dead = .gr none 6 rows) (hR : OwnG A ks rows S') (hN : (i :: S').Nodup) (h0 : 0 ≤ k) (h1 : k + totG ks ≤ 2 ^ 50) :
    ACalls Tryz.prog 14 [.own i, .int .i64 k] A (fun r A' => r = .int .i64 (k + totG ks) ∧ A'.length = A.length ∧ ∀ j, j ∉ i :: S' → A'.getD j .dead = A.getD j .dead) := by
  have hil := live_lt hb (by simp)
  have hlen := hR.length
  refine acalls_enterK (cf := cf 62 [0, 1, 4, 5, 9]) foll Tryz.func14 Tryz.ntmps14 (by simp [cf]) ?_
  simp only [Tryz.f14, EnterK_some, zW, zX, zD, builtinA, isLeaf, const1, ustrA, simprocAttr, ti3, ti9, ti24, ti55, ti57, ti59, ca43, ca44, cf, Tryz.results14]
  refine aloop_intro [0, 1, 5] (fun e A' => ∃ (p : Nat) (rl rr : List (List AV)) (SL SR : List Nat), p ≤ ks.length ∧ e = [(0, .own i), (1, .int .i64 (k + totG (ks.take p))), (5, .int .i64 p)] ∧ A'.length = A.length ∧ A'.getD i .dead = .gr none 6 (rl ++ rr) ∧ rl.length = p ∧
    OwnG A' (ks.drop p) rr SR ∧ S' = SL ++ SR ∧ ∀ j, j ∉ i :: S' → A'.getD j .dead = A.getD j .dead) (fun e _ => ks.length - (intOf (Abs.look 5 e)).toNat) ?_ ?_
  · refine ⟨0, [], rows, [], S', by omega, ?_, rfl, hb, rfl, by simpa using hR, rfl, fun _ _ => rfl⟩
    simp only [zW, zX, zD, builtinA, isLeaf, const1, ustrA, simprocAttr, ti3, ti9, ti24, ti55, ti57, ti59, ca43, ca44, cf, Tryz.results14]
    simp [totG]
  · rintro e A' ⟨p, rl, rr, SL, SR, hp, rfl, hl, hb', hrl, hRr, hS, hfr⟩
    have hrr := hRr.length
    have hrows : rl.length + rr.length = ks.length := by simp at hrr; omega
    simp only [zW, zX, zD, builtinA, isLeaf, const1, ustrA, simprocAttr, ti3, ti9, ti24, ti55, ti57, ti59, ca43, ca44, cf, Tryz.results14, hb', hrows]
    refine condK_intro (fun h2 => ?_) (fun h2 => ?_)
    · have hp2 : p < ks.length := by simpa using h2
      have hne : i ∉ S' := (List.nodup_cons.1 hN).1
      have hnd : (SL ++ SR).Nodup := by rw [← hS]; exact (List.nodup_cons.1 hN).2
      rw [si_drop' hp2, OwnG] at hRr
      obtain ⟨vk, rr', S1, S2, rfl, rfl, hK, hR'⟩ := hRr
      have hmem := si_mem hp2
      have hil' : i < A'.length := by omega
      have hct := totG_take hp2
      have hcl := totG_le ks (p + 1)
      have hok1 := hok _ hmem
      generalize ks.getD p si0 = b at *
      generalize hk1 : k + (totG (ks.take p) : Int) = k1 at *
      have b0 : 0 ≤ k1 := by omega
      have b1 : k1 + 5 + 3 * counts b.typ.kids ≤ 2 ^ 50 := by omega
      have w1 : IntKind.i64.wrap (k1 + 1) = k1 + 1 := wrap64 (by omega) (by omega)
      have w2 : IntKind.i64.wrap (k1 + 1 + 1) = k1 + 2 := by rw [wrap64 (by omega) (by omega)]; omega
      have w3 : IntKind.i64.wrap (k1 + 2 + 1) = k1 + 3 := by rw [wrap64 (by omega) (by omega)]; omega
      have w4 : IntKind.i64.wrap (k1 + 3 + 1) = k1 + 4 := by rw [wrap64 (by omega) (by omega)]; omega
      have w5 : IntKind.i64.wrap (k1 + 4 + 1) = k1 + 5 := by rw [wrap64 (by omega) (by omega)]; omega
      have hi1 : IntKind.i64.wrap ((p : Int) + 1) = ((p + 1 : Nat) : Int) := by rw [wrap64 (by omega) (by omega)]; rfl
      have hg : ∀ x : List AV, ((rl ++ x :: rr').getD p []) = x := fun x => by simp [List.getD, List.getElem?_append_right, hrl]
      have hst : ∀ x y : List AV, (rl ++ x :: rr').set p y = rl ++ y :: rr' := fun x y => by rw [List.set_append_right _ _ (by omega), hrl, Nat.sub_self]; rfl
      have hgs : ∀ X, (A'.set i X).getD i .dead = X := fun X => getD_set1 hil'
      have hpl : p < rl.length + (rr'.length + 1) := by simp at hrows; omega
      have hpi : (p : Int) < ((rl.length + (rr'.length + 1) : Nat) : Int) := by omega
      simp only [sRow] at hb'
      simp only [zW, zX, zD, builtinA, isLeaf, const1, ustrA, simprocAttr, ti3, ti9, ti24, ti55, ti57, ti59, ca43, ca44, cf, Tryz.results14, hb', hg, hst, hgs, List.set_set, w1]
      refine ⟨⟨by omega, hpi⟩, ⟨hpl, by simp [isElem, isLeaf]⟩, ?_⟩
      refine callK_intro (by simp only [zW, zX, zD, builtinA, isLeaf, const1, ustrA, simprocAttr]; rfl) (laws_markText (k1 + 1) (by omega) _) ?_ rfl; rintro v A' ⟨rfl, rfl⟩
      simp only [zW, zX, zD, builtinA, isLeaf, const1, ustrA, simprocAttr, ti3, ti9, ti24, ti55, ti57, ti59, ca43, ca44, cf, Tryz.results14, hb', hg, hst, hgs, List.set_set, w2, w3]
      refine ⟨⟨by omega, hpi⟩, ⟨hpl, by simp [isElem, isLeaf]⟩, ⟨by omega, hpi⟩, ⟨hpl, by simp [isElem, isLeaf]⟩, ?_⟩
      refine callK_intro (by simp only [zW, zX, zD, builtinA, isLeaf, const1, ustrA, simprocAttr]; rfl) (laws_markText (k1 + 3) (by omega) _) ?_ rfl; rintro v A' ⟨rfl, rfl⟩
      simp only [zW, zX, zD, builtinA, isLeaf, const1, ustrA, simprocAttr, ti3, ti9, ti24, ti55, ti57, ti59, ca43, ca44, cf, Tryz.results14, hb', hg, hst, hgs, List.set_set, w4]
      refine ⟨⟨by omega, hpi⟩, ⟨hpl, by simp [isElem, isLeaf]⟩, ?_⟩
      refine callK_intro (by simp only [zW, zX, zD, builtinA, isLeaf, const1, ustrA, simprocAttr]; rfl) (laws_markText (k1 + 4) (by omega) _) ?_ rfl; rintro v A' ⟨rfl, rfl⟩
      simp only [zW, zX, zD, builtinA, isLeaf, const1, ustrA, simprocAttr, ti3, ti9, ti24, ti55, ti57, ti59, ca43, ca44, cf, Tryz.results14, hb', hg, hst, hgs, List.set_set, w5]
      refine ⟨⟨by omega, hpi⟩, ⟨hpl, by simp [isElem, isLeaf]⟩, ⟨by omega, hpi⟩, ?_⟩
      have hiS1 : i ∉ S1 := fun h => hne (by rw [hS]; simp [h])
      have hm : MarkS b.typ.kids := markS _ hok1.2
      refine callO_intro (hm _ vk S1 (k1 + 5) (hK.frame fun j hj => by rw [getD_set_ne' (fun e => hiS1 (by rw [e]; exact hj))]) ((List.nodup_append.1 (List.nodup_append.1 hnd).2.1).1) (by omega) b1) ?_
      rintro r A3 ⟨rfl, hl3, hK3, hf3⟩
      simp only [zW, zX, zD, builtinA, isLeaf, const1, ustrA, simprocAttr, ti3, ti9, ti24, ti55, ti57, ti59, ca43, ca44, cf, Tryz.results14, hi1, LoopK_eq]
      have hms := markL_next b.typ.kids (k1 + 5)
      have hd2 := (List.nodup_append.1 (List.nodup_append.1 hnd).2.1).2.2
      have fR : ∀ j ∈ S2, A3.getD j .dead = A'.getD j .dead := fun j hj => by
        rw [hf3 j (fun h => hd2 j h j hj rfl), getD_set_ne' (fun e => hne (by rw [hS, e]; simp [hj]))]
      refine ⟨⟨p + 1, rl ++ [[AV.int IntKind.i64 k1, AV.str (mtx (k1 + 1)), AV.int IntKind.i64 (k1 + 2), AV.str (mtx (k1 + 3)), AV.str (mtx (k1 + 4)), vk]], rr', SL ++ S1, S2, by omega, ?_, ?_, ?_, ?_, hR'.frame fR, by rw [hS]; simp, fun j hj => ?_⟩, ?_⟩
      · rw [hms]
        have e : k1 + 5 + 3 * (counts b.typ.kids : Int) = k + (totG (ks.take (p + 1)) : Int) := by rw [hct]; omega
        rw [e]
      · rw [hl3]; simpa using hl
      · rw [hf3 i hiS1, getD_set_self hil']; simp
      · simp [hrl]
      · have hj1 : j ≠ i := fun e => hj (by simp [e])
        have hj2 : j ∉ S1 := fun h => hj (by rw [hS]; simp [h])
        rw [hf3 j hj2, getD_set_ne' (Ne.symm hj1)]
        exact hfr j hj
      · simp only [intOf]; omega
    · have hp2 : p = ks.length := by simp at h2; omega
      subst hp2
      simp only [zW, zX, zD, builtinA, isLeaf, const1, ustrA, simprocAttr, ti3, ti9, ti24, ti55, ti57, ti59, ca43, ca44, cf, Tryz.results14]
      exact ⟨hl, hfr⟩
end Go.Proofs.YtapkacochknndaaGreat
