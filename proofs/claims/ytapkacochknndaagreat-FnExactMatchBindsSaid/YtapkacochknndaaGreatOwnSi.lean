/- Lists of items of signatures as memory of their own. -/
import Derived.Test.YtapkacochknndaaGreatOwnTo
import Derived.Test.YtapkacochknndaaGreatSigs
import Derived.Test.YtapkacochknndaaGreatAbsW3
set_option linter.unusedVariables false
set_option linter.unusedSimpArgs false
namespace Go.Proofs.YtapkacochknndaaGreat
open Go.Abs

theorem enc4s (t : Ty) : enc t = [.int .i64 t.kind, .str t.mod, .str t.name, .slice (encs t.kids)] := by cases t; rw [enc]; rfl
theorem encA4s (t : Ty) : encA t = [.int .i64 t.kind, .str t.mod, .str t.name, .aslice (encAs t.kids)] := by cases t; rw [encA]; rfl
theorem sE6 (x : SigI) : sE x = [.int .i64 x.kind, .str x.name, .int .i64 x.typ.kind, .str x.typ.mod, .str x.typ.name, .slice (encs x.typ.kids)] := by rw [sE, enc4s]
def sRow (b : SigI) (v : AV) : List AV := [.int .i64 b.kind, .str b.name, .int .i64 b.typ.kind, .str b.typ.mod, .str b.typ.name, v]
def OwnG (A : List Box) : List SigI → List (List AV) → List Nat → Prop
  | [], rows, S => rows = [] ∧ S = []
  | b :: bs, rows, S => ∃ v rows' S1 S2, rows = sRow b v :: rows' ∧ S = S1 ++ S2 ∧ OwnK A b.typ.kids v S1 ∧ OwnG A bs rows' S2
theorem OwnG.frame {A A' : List Box} : ∀ {bs : List SigI} {rows : List (List AV)} {S : List Nat}, OwnG A bs rows S → (∀ i ∈ S, A'.getD i .dead = A.getD i .dead) → OwnG A' bs rows S
  | [], rows, S, h, hf => h
  | b :: bs, rows, S, h, hf => by
    rw [OwnG] at h ⊢
    obtain ⟨v, rows', S1, S2, h1, rfl, h3, h4⟩ := h
    exact ⟨v, rows', S1, S2, h1, rfl, h3.frame fun j hj => hf j (by simp [hj]), OwnG.frame h4 fun j hj => hf j (by simp [hj])⟩
theorem OwnG.length {A : List Box} : ∀ {bs : List SigI} {rows : List (List AV)} {S : List Nat}, OwnG A bs rows S → rows.length = bs.length
  | [], rows, S, h => by rw [OwnG] at h; rw [h.1]; rfl
  | b :: bs, rows, S, h => by
    rw [OwnG] at h
    obtain ⟨v, rows', S1, S2, rfl, h2, h3, h4⟩ := h
    simp [OwnG.length h4]
theorem OwnG.low {A : List Box} : ∀ {bs : List SigI} {rows : List (List AV)} {S : List Nat}, OwnG A bs rows S → ∀ i ∈ S, i < A.length
  | [], rows, S, h => by rw [OwnG] at h; rw [h.2]; simp
  | b :: bs, rows, S, h => by
    rw [OwnG] at h
    obtain ⟨v, rows', S1, S2, h1, rfl, h3, h4⟩ := h
    intro j hj
    rcases List.mem_append.1 hj with hj | hj
    · exact h3.low j hj
    · exact OwnG.low h4 j hj
theorem OwnG.append {A : List Box} : ∀ {k1 k2 : List SigI} {r1 r2 : List (List AV)} {S1 S2 : List Nat}, OwnG A k1 r1 S1 → OwnG A k2 r2 S2 → OwnG A (k1 ++ k2) (r1 ++ r2) (S1 ++ S2)
  | [], k2, r1, r2, S1, S2, h1, h2 => by
    rw [OwnG] at h1
    rw [h1.1, h1.2]; exact h2
  | t :: k1, k2, r1, r2, S1, S2, h1, h2 => by
    rw [OwnG] at h1
    obtain ⟨v, r', T1, T2, rfl, rfl, h3, h4⟩ := h1
    rw [List.cons_append, OwnG]
    exact ⟨v, r' ++ r2, T1, T2 ++ S2, by simp, by simp, h3, OwnG.append h4 h2⟩
theorem OwnG.view {A : List Box} : ∀ {bs : List SigI} {rows : List (List AV)} {S : List Nat}, OwnG A bs rows S → ∀ k, k < rows.length → ∀ j, j < 6 → View A ((rows.getD k []).getD j .bot) ((sE (bs.getD k si0)).getD j .bot)
  | [], rows, S, h => by rw [OwnG] at h; rw [h.1]; intro k hk; simp at hk
  | b :: bs, rows, S, h => by
    rw [OwnG] at h
    obtain ⟨v, rows', S1, S2, rfl, h2, h3, h4⟩ := h
    intro k hk j hj
    cases k with
    | zero =>
      have hv := h3.view
      have e0 : (sE ((b :: bs).getD 0 si0)) = sE b := rfl
      rw [e0, sE6]
      match j, hj with
      | 0, _ => exact .leaf _ rfl
      | 1, _ => exact .leaf _ rfl
      | 2, _ => exact .leaf _ rfl
      | 3, _ => exact .leaf _ rfl
      | 4, _ => exact .leaf _ rfl
      | 5, _ => exact hv
    | succ k =>
      have := OwnG.view h4 k (by simpa using hk) j hj
      simpa using this
theorem OwnG.viewG {A : List Box} {bs : List SigI} {rows : List (List AV)} {S : List Nat} {i : Nat} (h : A.getD i .dead = .gr none 6 rows) (hb : OwnG A bs rows S) : View A (.own i) (.slice (sEs bs)) := by
  refine .gr i 6 none rows (sEs bs) h (by rw [sEs_length, hb.length]) (fun r hr => ?_) fun k j hk hj => ?_
  · obtain ⟨t, _, rfl⟩ := List.mem_map.1 hr
    exact ⟨sE_length t, sE_leaf t⟩
  · unfold Abs.rowAt
    rw [sEs_getD (by rw [← hb.length]; exact hk)]
    exact hb.view k hk j hj
/-- new memory that holds a list of bindings -/
def NewG (A : List Box) (bs : List SigI) (j : Nat) (A' : List Box) : Prop :=
  A.length ≤ A'.length ∧ (∀ k, k < A.length → A'.getD k .dead = A.getD k .dead) ∧ ∃ rows S, A'.getD j .dead = .gr none 6 rows ∧ OwnG A' bs rows S ∧ (j :: S).Nodup ∧ ∀ i ∈ j :: S, A.length ≤ i

set_option maxRecDepth 100000 in
theorem toSigI_own (b : SigI) (hb : szI b ≤ 1048576) (A : List Box) : ACalls Tryz.prog 37 [.agg (sEA b)] A (fun r A' => ∃ j, r = .agg ([.int .i64 b.kind, .str b.name, .int .i64 b.typ.kind, .str b.typ.mod, .str b.typ.name, .own j]) ∧ NewK A b.typ.kids j A') := by
  have ht := toType_own b.typ (by rw [szI] at hb; omega)
  unfold TypN at ht
  rw [encA4s] at ht
  rw [sEA, encA4s]
  refine acalls_enterK (cf := cf 15 [0, 1, 2, 3]) foll Tryz.func37 Tryz.ntmps37 (by simp [cf]) ?_
  simp only [Tryz.f37, EnterK_some, zW, zX, zD, builtinA, isLeaf, const1, ustrA, simprocAttr, ti3, ti9, ti49, ti51, ti57, ti59, ca69, cf, Tryz.results37]
  refine callK_intro (by simp only [zW, zX, zD, builtinA, isLeaf, const1, ustrA, simprocAttr, Option.map_some] <;> rfl) (ht _) ?_ rfl
  rintro r A' ⟨j, rfl, hle, hf, rows, S, hg, hR, hND, hge⟩
  simp only [List.length_append, List.length_cons, List.length_nil] at hle hf hge
  have gb : ∀ i b', ([Box.cells [AV.int IntKind.i64 b.kind, AV.str b.name, AV.int IntKind.i64 b.typ.kind, AV.str b.typ.mod, AV.str b.typ.name, AV.aslice (encAs b.typ.kids)], Box.cells [AV.int IntKind.i64 0, AV.str [], AV.int IntKind.i64 0, AV.str [], AV.str [], AV.nils], Box.cells [AV.int IntKind.i64 b.kind, AV.str b.name, AV.int IntKind.i64 0, AV.str [], AV.str [], AV.nils]] : List Box).getD i .dead = b' → i < 3 → A'.getD (A.length + i) .dead = b' := fun i b' h hi => by
    rw [hf _ (by omega), Abs.getD_append_right (by omega), show A.length + i - A.length = i by omega]; exact h
  have g1 := gb 1 _ rfl (by omega)
  have g2 := gb 2 _ rfl (by omega)
  have hl1 : A.length + 1 < A'.length := by omega
  have hl2 : A.length + 2 < A'.length := by omega
  have s1 : ∀ X : Box, (A'.set (A.length + 2) X).getD (A.length + 2) .dead = X := fun X => getD_set_self hl2
  have s2 : ∀ X : Box, (A'.set (A.length + 2) X).getD (A.length + 1) .dead = .cells [AV.int IntKind.i64 0, AV.str [], AV.int IntKind.i64 0, AV.str [], AV.str [], AV.nils] := fun X => by rw [getD_set_ne' (by omega)]; exact g1
  have s3 : ∀ X Y : Box, ((A'.set (A.length + 2) X).set (A.length + 1) Y).getD (A.length + 1) .dead = Y := fun X Y => getD_set_self (by simpa using hl1)
  have fin : ∀ X Y : Box, NewK A b.typ.kids j ((A'.set (A.length + 2) X).set (A.length + 1) Y) := fun X Y => by
    refine ⟨by simp; omega, fun i hi => ?_, rows, S, ?_, hR.frame fun i hi => ?_, hND, fun i hi => by have := hge i hi; omega⟩
    · rw [getD_set_ne' (by omega), getD_set_ne' (by omega), hf i (by omega), Abs.getD_append_left hi]
    · have := hge j (by simp)
      rw [getD_set_ne' (by omega), getD_set_ne' (by omega)]; exact hg
    · have := hge i (by simp [hi])
      rw [getD_set_ne' (by omega), getD_set_ne' (by omega)]
  simp only [zW, zX, zD, builtinA, isLeaf, const1, ustrA, simprocAttr, ti3, ti9, ti49, ti51, ti57, ti59, ca69, cf, Tryz.results37, g1, g2, s1, s2, s3]
  exact ⟨j, rfl, fin _ _⟩

set_option maxRecDepth 100000 in
theorem toSigIS_own (ks : List SigI) (hl : ks.length ≤ 1048576) (hz : ∀ b ∈ ks, szI b ≤ 1048576) (A : List Box) : ACalls Tryz.prog 11 [.aslice (sEAs ks)] A (fun r A' => ∃ j, r = .own j ∧ NewG A ks j A') := by
  have hk : ∀ b ∈ ks, ∀ A, ACalls Tryz.prog 37 [.agg (sEA b)] A (fun r A' => ∃ j, r = .agg ([.int .i64 b.kind, .str b.name, .int .i64 b.typ.kind, .str b.typ.mod, .str b.typ.name, .own j]) ∧ NewK A b.typ.kids j A') := fun b hb A => toSigI_own b (hz b hb) A
  have hl2 : ((sEAs ks).length : Int) ≤ 1048576 := by rw [sEAs_length]; omega
  refine ACalls.grow ?_
  refine acalls_enterK (cf := cf 23 [0, 2, 3, 4, 11]) foll Tryz.func11 Tryz.ntmps11 (by simp [cf]) ?_
  simp only [Tryz.f11, EnterK_some, zW, zX, zD, builtinA, isLeaf, const1, ustrA, simprocAttr, ti3, ti22, ti24, ti51, ti59, ca37, cf, Tryz.results11]
  refine ⟨⟨by omega, by omega, by omega⟩, ?_⟩
  refine aloop_intro [0, 3, 4] (fun e A' => ∃ (p : Nat) (rl : List (List AV)) (SL : List Nat), p ≤ ks.length ∧ e = [(0, .aslice (sEAs ks)), (3, .own A.length), (4, .int .i64 p)] ∧ A'.getD A.length .dead = (if p = 0 then .row 6 (List.replicate ks.length zsi) 0 else .gr none 6 (rl ++ List.replicate (ks.length - p) zsi)) ∧
    rl.length = p ∧ OwnG A' (ks.take p) rl SL ∧ SL.Nodup ∧ (∀ i ∈ SL, A.length < i) ∧ A.length < A'.length ∧ ∀ k, k < A.length → A'.getD k .dead = A.getD k .dead) (fun e _ => ks.length - (intOf (Abs.look 4 e)).toNat) ?_ ?_
  · simp only [zW, zX, zD, builtinA, isLeaf, const1, ustrA, simprocAttr, ti3, ti22, ti24, ti51, ti59, ca37, cf, Tryz.results11]
    refine ⟨0, [], [], by omega, rfl, ?_, rfl, by simp [OwnG], by simp, by simp, by simp, fun k hk => Abs.getD_append_left hk⟩
    rw [if_pos rfl, sEAs_length]
    rfl
  · rintro e A' ⟨p, rl, SL, hp, rfl, hb, hrl, hO, hN, hlo, hlt, hfr⟩
    simp only [zW, zX, zD, builtinA, isLeaf, const1, ustrA, simprocAttr, ti3, ti22, ti24, ti51, ti59, ca37, cf, Tryz.results11, sEAs_length]
    refine condK_intro (fun h2 => ?_) (fun h2 => ?_)
    · have hp2 : p < ks.length := by simpa using h2
      have he := sEAs_getD hp2
      have hm := si_mem hp2
      simp only [zW, zX, zD, builtinA, isLeaf, const1, ustrA, simprocAttr, ti3, ti22, ti24, ti51, ti59, ca37, cf, Tryz.results11, he, sEA_length, sEA_take, sEAs_length]
      refine ⟨⟨by omega, by omega⟩, ?_⟩
      refine callK_intro (by simp only [zW, zX, zD, builtinA, isLeaf, const1, ustrA, simprocAttr, frzL_sEA, Option.map_some] <;> rfl) (hk _ hm _) ?_ rfl
      rintro r A3 ⟨j, rfl, hle, hf3, rows, S, hg, hR, hND, hge⟩
      have hi1 : IntKind.i64.wrap ((p : Int) + 1) = ((p + 1 : Nat) : Int) := by rw [wrap64 (by omega) (by omega)]; rfl
      have hb3 : A3.getD A.length .dead = (if p = 0 then .row 6 (List.replicate ks.length zsi) 0 else .gr none 6 (rl ++ List.replicate (ks.length - p) zsi)) := by rw [hf3 _ hlt]; exact hb
      have hjA : A.length ≠ j := fun e => by have := hge j (by simp); omega
      generalize ht : ks.getD p si0 = t at *
      have key : ∀ (n0 : Nat) (z : List (List AV)), n0 = ks.length → z.length = ks.length → z.take p = rl → z.drop p = List.replicate (ks.length - p) zsi → z.set p ([.int .i64 t.kind, .str t.name, .int .i64 t.typ.kind, .str t.typ.mod, .str t.typ.name, .own j]) = (rl ++ [[.int .i64 t.kind, .str t.name, .int .i64 t.typ.kind, .str t.typ.mod, .str t.typ.name, .own j]]) ++ List.replicate (ks.length - (p + 1)) zsi := fun n0 z h0 h1 h2 h3 => by
        have e1 : z = rl ++ List.replicate (ks.length - p) zsi := by rw [← h2, ← h3, List.take_append_drop]
        rw [e1, show ks.length - p = (ks.length - (p + 1)) + 1 by omega, List.replicate_succ, List.set_append_right _ _ (by omega), hrl, Nat.sub_self]
        simp
      have fin : ∀ Z, Z = Box.gr none 6 ((rl ++ [[.int .i64 t.kind, .str t.name, .int .i64 t.typ.kind, .str t.typ.mod, .str t.typ.name, .own j]]) ++ List.replicate (ks.length - (p + 1)) zsi) → ∃ (p' : Nat) (rl' : List (List AV)) (SL' : List Nat), p' ≤ ks.length ∧ [(0, AV.aslice (sEAs ks)), (3, .own A.length), (4, .int .i64 ((p + 1 : Nat) : Int))] = [(0, .aslice (sEAs ks)), (3, .own A.length), (4, .int .i64 p')] ∧ (A3.set A.length Z).getD A.length .dead = (if p' = 0 then .row 6 (List.replicate ks.length zsi) 0 else .gr none 6 (rl' ++ List.replicate (ks.length - p') zsi)) ∧
          rl'.length = p' ∧ OwnG (A3.set A.length Z) (ks.take p') rl' SL' ∧ SL'.Nodup ∧ (∀ i ∈ SL', A.length < i) ∧ A.length < (A3.set A.length Z).length ∧ ∀ k, k < A.length → (A3.set A.length Z).getD k .dead = A.getD k .dead := fun Z hZ => by
        have hlt3 : A.length < A3.length := by omega
        have low := hO.low
        refine ⟨p + 1, rl ++ [[.int .i64 t.kind, .str t.name, .int .i64 t.typ.kind, .str t.typ.mod, .str t.typ.name, .own j]], SL ++ (j :: S), by omega, rfl, ?_, by simp [hrl], ?_, ?_, ?_, by simpa using hlt3, fun k hk => ?_⟩
        · rw [getD_set_self hlt3, if_neg (by omega)]; exact hZ
        · have hts : ks.take (p + 1) = ks.take p ++ [t] := by rw [← ht]; exact take_snoc si0 hp2
          rw [hts]
          refine (hO.frame fun i hi => ?_).append ?_
          · have h1 := hlo i hi
            have h2 := low i hi
            rw [getD_set_ne' (by omega), hf3 i h2]
          · rw [OwnG]
            refine ⟨_, [], j :: S, [], rfl, by simp, ?_, by simp [OwnG]⟩
            refine .inr (.inr ⟨j, rows, S, rfl, rfl, by rw [getD_set_ne' hjA]; exact hg, hR.frame fun i hi => ?_⟩)
            have := hge i (by simp [hi])
            rw [getD_set_ne' (by omega)]
        · refine List.nodup_append.2 ⟨hN, hND, fun x hx y hy => ?_⟩
          have := low x hx
          have := hge y hy
          omega
        · intro i hi
          rcases List.mem_append.1 hi with hi | hi
          · exact hlo i hi
          · have := hge i hi; omega
        · rw [getD_set_ne' (by omega), hf3 k (by omega), hfr k hk]
      have hel : ∀ v ∈ [AV.int .i64 t.kind, .str t.name, .int .i64 t.typ.kind, .str t.typ.mod, .str t.typ.name, .own j], isElem v = true := by simp [isElem, isLeaf]
      by_cases hp0 : p = 0
      · rw [if_pos hp0] at hb3
        have hz := key ks.length (List.replicate ks.length zsi) rfl (by simp) (by subst hp0; simp at hrl; simp [hrl]) (by subst hp0; simp)
        have hdz : List.drop 6 ((List.replicate ks.length zsi).getD p []) = [] := by rw [getD_repl hp2]; rfl
        simp only [zW, zX, zD, builtinA, isLeaf, const1, ustrA, simprocAttr, ti3, ti22, ti24, ti51, ti59, ca37, cf, Tryz.results11, hg, hb3, hz, hdz, hi1, LoopK_eq]
        refine ⟨⟨by omega, by simp; omega⟩, ⟨by simp; omega, hel⟩, by simpa only [List.append_assoc, List.cons_append, List.nil_append, List.length_set] using fin _ rfl, ?_⟩
        simp only [intOf]; omega
      · rw [if_neg hp0] at hb3
        have hz := key ks.length (rl ++ List.replicate (ks.length - p) zsi) rfl (by simp; omega) (by rw [← hrl]; simp) (by rw [← hrl]; simp)
        have hdz : List.drop 6 ((rl ++ List.replicate (ks.length - p) zsi).getD p []) = [] := by
          rw [Abs.getD_append_right (by omega), hrl, Nat.sub_self, getD_repl (by omega)]; rfl
        simp only [zW, zX, zD, builtinA, isLeaf, const1, ustrA, simprocAttr, ti3, ti22, ti24, ti51, ti59, ca37, cf, Tryz.results11, hg, hb3, hz, hdz, hi1, LoopK_eq]
        refine ⟨⟨by omega, by simp; omega⟩, ⟨by simp; omega, hel⟩, by simpa only [List.append_assoc, List.cons_append, List.nil_append, List.length_set] using fin _ rfl, ?_⟩
        simp only [intOf]; omega
    · have hp2 : p = ks.length := by simp at h2; omega
      subst hp2
      simp only [zW, zX, zD, builtinA, isLeaf, const1, ustrA, simprocAttr, ti3, ti22, ti24, ti51, ti59, ca37, cf, Tryz.results11]
      rw [List.take_length] at hO
      have low := hO.low
      have hnd : (A.length :: SL).Nodup := List.nodup_cons.2 ⟨fun h => by have := hlo _ h; omega, hN⟩
      have hge : ∀ i ∈ A.length :: SL, A.length ≤ i := fun i hi => by
        rcases List.mem_cons.1 hi with rfl | hi
        · exact Nat.le_refl _
        · have := hlo i hi; omega
      by_cases h0 : ks.length = 0
      · have hk0 : ks = [] := List.length_eq_zero_iff.1 h0
        rw [if_pos h0, h0] at hb
        refine .inr ⟨A.length, 6, [], by rw [hb]; rfl, A.length, rfl, by simp; omega, fun k hk => by rw [getD_set_ne' (by omega)]; exact hfr k hk, [], [], getD_set_self hlt, by rw [hk0]; simp [OwnG], by simp, by simp⟩
      · rw [if_neg h0] at hb
        refine .inl ⟨A.length, rfl, by omega, hfr, rl, SL, by rw [hb]; simp, hO, hnd, hge⟩

end Go.Proofs.YtapkacochknndaaGreat
